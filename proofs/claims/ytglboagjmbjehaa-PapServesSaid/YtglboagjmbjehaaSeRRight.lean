/-
  tetherref06.Right.
-/
import Derived.Test.YtglboagjmbjehaaSeRight
namespace Go.Proofs.Ytglboagjmbjehaa
open Go.RowKit Go.Shelf
set_option maxRecDepth 100000
set_option maxHeartbeats 4000000
set_option linter.unusedSimpArgs false
set_option linter.unusedVariables false

theorem any_yes {l : List Int} {j : Nat} {z : Int} (hz : l[j]? = some z) (h : wrongA z = true) : anyW l = true := by
  unfold anyW
  rw [List.any_eq_true]
  exact ⟨z, List.mem_of_getElem? hz, h⟩
theorem any_no {l : List Int} (h : ∀ (j : Nat) z, l[j]? = some z → wrongA z = false) : anyW l = false := by
  unfold anyW
  rw [List.any_eq_false]
  intro z hz
  obtain ⟨j, hj, e⟩ := List.mem_iff_getElem.1 hz
  have := h j z (by rw [← e]; exact List.getElem?_eq_getElem hj)
  simp [this]
theorem has_yes {l : List Int} {r q : Nat} {y z : Int} (hy : l[r]? = some y) (hr : r < q) (e : z = y) : hasI (l.take q) z = true := by
  unfold hasI
  rw [List.contains_iff_mem]
  exact List.mem_of_getElem? (i := r) (by rw [List.getElem?_take, if_pos hr, hy, e])
theorem has_no {l : List Int} {q : Nat} {z : Int} (h : ∀ i < q, ∀ u, l[i]? = some u → u ≠ z) : hasI (l.take q) z = false := by
  unfold hasI
  rw [Bool.eq_false_iff]
  intro hc
  rw [List.contains_iff_mem] at hc
  obtain ⟨i, hi, e⟩ := List.mem_iff_getElem.1 hc
  rw [List.length_take] at hi
  rw [List.getElem_take] at e
  exact h i (by omega) z (by rw [← e]; exact List.getElem?_eq_getElem (by omega)) rfl
theorem rright_any (x : Sec) (E : Option Addr) (m k B : Nat) (w : World) (ho : okS x) (ha : AdRd w B E m k x.ad) (hB : B ≤ w.heap.size) :
    Calls Try.prog 47 #[.agg #[.string x.cl, .string x.sv, .string x.wd, .slice E m k]] w fun e w' => e = .returned (.int .i64 (rightE x)) ∧ Below w.heap.size w w' := by
  obtain ⟨o1, o2, o3⟩ := ho
  have hm : x.ad.length = m := ha.1
  have hmk := ha.2.1
  have hBV : Below w.heap.size w (w.alloc (.cells #[.string x.cl, .string x.sv, .string x.wd, .slice E m k] 26)) := (Below.refl _ _).alloc (Nat.le_refl _) _
  have haV := ha.below hBV hB
  have BV := Lib.hid hBV
  have HA := Lib.hid haV
  have hnew : Blk (w.alloc (.cells #[.string x.cl, .string x.sv, .string x.wd, .slice E m k] 26)) w.heap.size 26 [.string x.cl, .string x.sv, .string x.wd, .slice E m k] := heap_alloc_new w _
  obtain ⟨V, hV⟩ : ∃ V, w.alloc (.cells #[.string x.cl, .string x.sv, .string x.wd, .slice E m k] 26) = V := ⟨_, rfl⟩
  rw [hV] at BV HA hnew
  have v0 : V.cell? ⟨w.heap.size, 0, none⟩ = some (.string x.cl) := hnew.cell 0
  have v1 : V.cell? ⟨w.heap.size, 1, none⟩ = some (.string x.sv) := hnew.cell 1
  have v2 : V.cell? ⟨w.heap.size, 2, none⟩ = some (.string x.wd) := hnew.cell 2
  have v3 : V.cell? ⟨w.heap.size, 3, none⟩ = some (.slice E m k) := hnew.cell 3
  have hBs : B ≤ V.heap.size := Nat.le_trans hB BV.out.size
  have HV := Lib.hid hV
  have NM := Lib.hid (fun s h => rname_any s V h)
  clear hnew hV hBV ha haV
  cases n1 : nameB x.cl
  · have e : Hid (rightE x = 60) := by show _ = _; simp [rightE, n1]
    rw [e.out]
    go_enter Try.func47, Try.ntmps47
    go_wp2_with (first
      | (rw [HV.out])
      | (go_at_call 32; ((with_reducible refine (NM.out _ (by assumption)).mono ?_); rintro e w' ⟨rfl, rfl⟩)))
    go_ret
    exact ⟨rfl, BV.out⟩
  cases n2 : nameB x.sv
  · have e : Hid (rightE x = 60) := by show _ = _; simp [rightE, n2]
    rw [e.out]
    go_enter Try.func47, Try.ntmps47
    go_wp2_with (first
      | (rw [HV.out])
      | (go_at_call 32; ((with_reducible refine (NM.out _ (by assumption)).mono ?_); rintro e w' ⟨rfl, rfl⟩)))
    go_ret
    exact ⟨rfl, BV.out⟩
  have hwd : (0 < x.wd.size ∧ x.wd.toList.isEmpty = false) ∨ (x.wd.size = 0 ∧ x.wd.toList.isEmpty = true) := by
    rcases Nat.eq_zero_or_pos x.wd.size with h | h
    · exact .inr ⟨h, str_nil h⟩
    · exact .inl ⟨h, str_ne h⟩
  by_cases hw : 0 < x.wd.size ∧ nameB x.wd = false
  · have e : Hid (rightE x = 52) := by show _ = _; simp [rightE, n1, n2, hw]
    rw [e.out]
    obtain ⟨w1, n3⟩ := hw
    have w2 := str_ne w1
    clear hwd
    go_enter Try.func47, Try.ntmps47
    go_wp2_with (first
      | (rw [HV.out])
      | (go_at_call 32; ((with_reducible refine (NM.out _ (by assumption)).mono ?_); rintro e w' ⟨rfl, rfl⟩)))
    go_ret
    exact ⟨rfl, BV.out⟩
  have R0 : rightE x = if 16 < x.ad.length then 7 else if anyW x.ad = true then 150 else if dupA x.ad = true then 6 else 0 := by
    unfold rightE
    rw [if_neg (by simp [n1, n2]), if_neg hw]
  have hw2 : (x.wd.toList.isEmpty = false ∧ nameB x.wd = true) ∨ x.wd.toList.isEmpty = true := by
    rcases hwd with ⟨h1, h2⟩ | ⟨h1, h2⟩
    · refine .inl ⟨h2, ?_⟩
      cases h : nameB x.wd
      · exact absurd ⟨h1, h⟩ hw
      · rfl
    · exact .inr h2
  clear hwd hw
  have D : ∀ j z, x.ad[j]? = some z → hasI (x.ad.take j) z = true → dupA x.ad = true := fun j z hz h => dup_yes hz h
  have HD := Lib.hid D
  have HM := Lib.hid hm
  rw [hm] at R0
  have HR := Lib.hid R0
  clear R0 D hm
  rcases hw2 with ⟨w1, w2⟩ | w1
  all_goals
    go_enter Try.func47, Try.ntmps47
    go_upto_region 5 with (first
      | (rw [HV.out])
      | (go_at_call 32; ((with_reducible refine (NM.out _ (by assumption)).mono ?_); rintro e w' ⟨rfl, rfl⟩)))
    clear w1 n1 n2
    by_cases h16 : 16 < m
    · have e := Lib.hid (HR.out.trans (if_pos h16))
      have h16i : (16 : Int) < (m : Int) := by omega
      go_wp2
      go_ret
      exact ⟨by rw [e.out]; rfl, BV.out⟩
    have h16i : ¬ (16 : Int) < (m : Int) := by omega
    have HR2 := Lib.hid (HR.out.trans (if_neg h16))
    go_wp2
    go_loop [38] (fun i => ∃ j : Nat, j ≤ m ∧ i = .int .i64 j ∧ ∀ i < j, ∀ z, x.ad[i]? = some z → wrongA z = false) (fun i => m - (intOf i).toNat)
    case atStart => exact ⟨0, Nat.zero_le _, rfl, fun i hi => by omega⟩
    case round =>
      obtain ⟨j, hj, rfl, hno⟩ := hrel
      have HNO := Lib.hid hno
      clear hno
      by_cases hlt : j < m
      · obtain ⟨b, off, rfl, hl, hc⟩ := HA.out.2.2.2.2 (by omega)
        obtain ⟨z, hz⟩ : ∃ z, x.ad[j]? = some z := ⟨x.ad[j]'(by have := HM.out; omega), List.getElem?_eq_getElem _⟩
        have c0 := hc j z hz
        have HZ := Lib.hid hz
        clear hc hz
        by_cases z1 : z < 1
        · have e := Lib.hid (HR2.out.trans (if_pos (any_yes HZ.out (by simp [wrongA, z1]))))
          go_wp2
          go_ret
          exact ⟨by rw [e.out]; rfl, BV.out⟩
        · by_cases z2 : 4294967295 < z
          · have e := Lib.hid (HR2.out.trans (if_pos (any_yes HZ.out (by simp [wrongA, z2]))))
            go_wp2
            go_ret
            exact ⟨by rw [e.out]; rfl, BV.out⟩
          · have NX : Hid (∀ i < j + 1, ∀ z, x.ad[i]? = some z → wrongA z = false) := by
              intro i hi y hy
              by_cases e : i = j
              · subst e
                have h2 := HZ.out
                rw [hy] at h2
                injection h2 with h2
                rw [h2]; simp [wrongA, z1, z2]
              · exact HNO.out i (by omega) y hy
            go_wp2
            go_round
            case rel => exact ⟨j + 1, by omega, by go_num, NX.out⟩
            case measure => simp [intOf]; omega
      · obtain rfl : j = m := by omega
        have ha0 : anyW x.ad = false := any_no fun i z hz => HNO.out i (by have := (List.getElem?_eq_some_iff.1 hz).1; have := HM.out; omega) z hz
        have HR3 := Lib.hid (HR2.out.trans (if_neg (by simp [ha0])))
        clear ha0 HNO
        go_wp2
        go_loop [52] (fun i => ∃ q : Nat, q ≤ j ∧ i = .int .i64 q ∧ ∀ i < q, ∀ z, x.ad[i]? = some z → hasI (x.ad.take i) z = false) (fun i => j - (intOf i).toNat)
        case atStart => exact ⟨0, Nat.zero_le _, rfl, fun i hi => by omega⟩
        case round =>
          obtain ⟨q, hq, rfl, hno⟩ := hrel
          have HNO := Lib.hid hno
          clear hno
          by_cases hqt : q < j
          · obtain ⟨b, off, rfl, hl, hc⟩ := HA.out.2.2.2.2 (by omega)
            obtain ⟨z, hz⟩ : ∃ z, x.ad[q]? = some z := ⟨x.ad[q]'(by have := HM.out; omega), List.getElem?_eq_getElem _⟩
            have c0 := hc q z hz
            have HZ := Lib.hid hz
            have HC := Lib.hid hc
            have hjk : (q : Int) ≤ (k : Int) := by omega
            have hj0 : (0 : Int) ≤ (q : Int) := by omega
            clear hc hz
            go_wp2
            go_loop [62] (fun i => ∃ r : Nat, r ≤ q ∧ i = .int .i64 r ∧ ∀ i < r, ∀ y, x.ad[i]? = some y → y ≠ z) (fun i => q - (intOf i).toNat)
            case atStart => exact ⟨0, Nat.zero_le _, rfl, fun i hi => by omega⟩
            case round =>
              obtain ⟨r, hr, rfl, hno⟩ := hrel
              have HN2 := Lib.hid hno
              clear hno c0
              by_cases hrt : r < q
              · obtain ⟨y, hy⟩ : ∃ y, x.ad[r]? = some y := ⟨x.ad[r]'(by have := HM.out; omega), List.getElem?_eq_getElem _⟩
                have c1 := HC.out r y hy
                have HY := Lib.hid hy
                clear hy
                by_cases hzy : z = y
                · have e := Lib.hid (HR3.out.trans (if_pos (HD.out q z HZ.out (has_yes HY.out hrt hzy))))
                  have e1 : (z == y) = true := by simpa using hzy
                  clear hzy
                  go_wp2
                  go_ret
                  exact ⟨by rw [e.out]; rfl, BV.out⟩
                · have e1 : (z == y) = false := by simpa using hzy
                  have NX : Hid (∀ i < r + 1, ∀ u, x.ad[i]? = some u → u ≠ z) := by
                    intro i hi u hu
                    by_cases e : i = r
                    · subst e
                      have h2 := HY.out
                      rw [hu] at h2
                      injection h2 with h2
                      rw [h2]; exact fun e => hzy e.symm
                    · exact HN2.out i (by omega) u hu
                  clear hzy
                  go_wp2
                  go_round
                  case rel => exact ⟨r + 1, by omega, by go_num, NX.out⟩
                  case measure => simp [intOf]; omega
              · obtain rfl : r = q := by omega
                have NX : Hid (∀ i < r + 1, ∀ u, x.ad[i]? = some u → hasI (x.ad.take i) u = false) := by
                  intro i hi y hy
                  by_cases e : i = r
                  · subst e
                    have h2 := HZ.out
                    rw [hy] at h2
                    injection h2 with h2
                    rw [h2]
                    exact has_no fun a ha u hu => HN2.out a ha u hu
                  · exact HNO.out i (by omega) y hy
                go_wp2
                go_round
                case rel => exact ⟨r + 1, by omega, by go_num, NX.out⟩
                case measure => simp [intOf]; omega
          · obtain rfl : q = j := by omega
            have e : Hid (rightE x = 0) := by
              have h0 : dupA x.ad = false := dup_no fun i z hz => HNO.out i (by have := (List.getElem?_eq_some_iff.1 hz).1; have := HM.out; omega) z hz
              exact HR3.out.trans (if_neg (by simp [h0]))
            go_wp2
            go_ret
            exact ⟨by rw [e.out]; rfl, BV.out⟩
end Go.Proofs.Ytglboagjmbjehaa
