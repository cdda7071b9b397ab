/-
  tetherref06.Right.
  tetherref06.fits, Find.
-/
import Derived.Test.YtjimoegegigoiaaDoorSeRight
import Derived.Test.YtjimoegegigoiaaDoorSeTab
namespace Go.Proofs.YtjimoegegigoiaaDoor
open Go.RowKit Go.Shelf
set_option maxRecDepth 100000
set_option maxHeartbeats 4000000
set_option linter.unusedSimpArgs false
set_option linter.unusedVariables false

theorem any_yes {l : List Int} {j : Nat} {z : Int} (hz : l[j]? = some z) (h : wrongA z = true) : anyW l = true := by
  unfold anyW
  rw [List.any_eq_true]
  exact ⟨z, List.mem_of_getElem? hz, h⟩
theorem any_no {l : List Int} (h : ∀ (j : Nat) z, l[j]? = some z → wrongA z = false) : anyW l = false := by
  unfold anyW
  rw [List.any_eq_false]
  intro z hz
  obtain ⟨j, hj, e⟩ := List.mem_iff_getElem.1 hz
  have := h j z (by rw [← e]; exact List.getElem?_eq_getElem hj)
  simp [this]
theorem has_yes {l : List Int} {r q : Nat} {y z : Int} (hy : l[r]? = some y) (hr : r < q) (e : z = y) : hasI (l.take q) z = true := by
  unfold hasI
  rw [List.contains_iff_mem]
  exact List.mem_of_getElem? (i := r) (by rw [List.getElem?_take, if_pos hr, hy, e])
theorem has_no {l : List Int} {q : Nat} {z : Int} (h : ∀ i < q, ∀ u, l[i]? = some u → u ≠ z) : hasI (l.take q) z = false := by
  unfold hasI
  rw [Bool.eq_false_iff]
  intro hc
  rw [List.contains_iff_mem] at hc
  obtain ⟨i, hi, e⟩ := List.mem_iff_getElem.1 hc
  rw [List.length_take] at hi
  rw [List.getElem_take] at e
  exact h i (by omega) z (by rw [← e]; exact List.getElem?_eq_getElem (by omega)) rfl
theorem rright_any (x : Sec) (E : Option Addr) (m k B : Nat) (w : World) (ho : okS x) (ha : AdRd w B E m k x.ad) (hB : B ≤ w.heap.size) :
    Calls Tryd.prog 52 #[.agg #[.string x.cl, .string x.sv, .string x.wd, .slice E m k]] w fun e w' => e = .returned (.int .i64 (rightE x)) ∧ Below w.heap.size w w' := by
  obtain ⟨o1, o2, o3⟩ := ho
  have hm : x.ad.length = m := ha.1
  have hmk := ha.2.1
  have hBV : Below w.heap.size w (w.alloc (.cells #[.string x.cl, .string x.sv, .string x.wd, .slice E m k] 50)) := (Below.refl _ _).alloc (Nat.le_refl _) _
  have haV := ha.below hBV hB
  have BV := Lib.hid hBV
  have HA := Lib.hid haV
  have hnew : Blk (w.alloc (.cells #[.string x.cl, .string x.sv, .string x.wd, .slice E m k] 50)) w.heap.size 50 [.string x.cl, .string x.sv, .string x.wd, .slice E m k] := heap_alloc_new w _
  obtain ⟨V, hV⟩ : ∃ V, w.alloc (.cells #[.string x.cl, .string x.sv, .string x.wd, .slice E m k] 50) = V := ⟨_, rfl⟩
  rw [hV] at BV HA hnew
  have v0 : V.cell? ⟨w.heap.size, 0, none⟩ = some (.string x.cl) := hnew.cell 0
  have v1 : V.cell? ⟨w.heap.size, 1, none⟩ = some (.string x.sv) := hnew.cell 1
  have v2 : V.cell? ⟨w.heap.size, 2, none⟩ = some (.string x.wd) := hnew.cell 2
  have v3 : V.cell? ⟨w.heap.size, 3, none⟩ = some (.slice E m k) := hnew.cell 3
  have hBs : B ≤ V.heap.size := Nat.le_trans hB BV.out.size
  have HV := Lib.hid hV
  have NM := Lib.hid (fun s h => rname_any s V h)
  clear hnew hV hBV ha haV
  cases n1 : nameB x.cl
  · have e : Hid (rightE x = 60) := by show _ = _; simp [rightE, n1]
    rw [e.out]
    go_enter Tryd.func52, Tryd.ntmps52
    go_wp2_with (first
      | (rw [HV.out])
      | (go_at_call 23; ((with_reducible refine (NM.out _ (by assumption)).mono ?_); rintro e w' ⟨rfl, rfl⟩)))
    go_ret
    exact ⟨rfl, BV.out⟩
  cases n2 : nameB x.sv
  · have e : Hid (rightE x = 60) := by show _ = _; simp [rightE, n2]
    rw [e.out]
    go_enter Tryd.func52, Tryd.ntmps52
    go_wp2_with (first
      | (rw [HV.out])
      | (go_at_call 23; ((with_reducible refine (NM.out _ (by assumption)).mono ?_); rintro e w' ⟨rfl, rfl⟩)))
    go_ret
    exact ⟨rfl, BV.out⟩
  have hwd : (0 < x.wd.size ∧ x.wd.toList.isEmpty = false) ∨ (x.wd.size = 0 ∧ x.wd.toList.isEmpty = true) := by
    rcases Nat.eq_zero_or_pos x.wd.size with h | h
    · exact .inr ⟨h, str_nil h⟩
    · exact .inl ⟨h, str_ne h⟩
  by_cases hw : 0 < x.wd.size ∧ nameB x.wd = false
  · have e : Hid (rightE x = 52) := by show _ = _; simp [rightE, n1, n2, hw]
    rw [e.out]
    obtain ⟨w1, n3⟩ := hw
    have w2 := str_ne w1
    clear hwd
    go_enter Tryd.func52, Tryd.ntmps52
    go_wp2_with (first
      | (rw [HV.out])
      | (go_at_call 23; ((with_reducible refine (NM.out _ (by assumption)).mono ?_); rintro e w' ⟨rfl, rfl⟩)))
    go_ret
    exact ⟨rfl, BV.out⟩
  have R0 : rightE x = if 16 < x.ad.length then 7 else if anyW x.ad = true then 150 else if dupA x.ad = true then 6 else 0 := by
    unfold rightE
    rw [if_neg (by simp [n1, n2]), if_neg hw]
  have hw2 : (x.wd.toList.isEmpty = false ∧ nameB x.wd = true) ∨ x.wd.toList.isEmpty = true := by
    rcases hwd with ⟨h1, h2⟩ | ⟨h1, h2⟩
    · refine .inl ⟨h2, ?_⟩
      cases h : nameB x.wd
      · exact absurd ⟨h1, h⟩ hw
      · rfl
    · exact .inr h2
  clear hwd hw
  have D : ∀ j z, x.ad[j]? = some z → hasI (x.ad.take j) z = true → dupA x.ad = true := fun j z hz h => dup_yes hz h
  have HD := Lib.hid D
  have HM := Lib.hid hm
  rw [hm] at R0
  have HR := Lib.hid R0
  clear R0 D hm
  rcases hw2 with ⟨w1, w2⟩ | w1
  all_goals
    go_enter Tryd.func52, Tryd.ntmps52
    go_upto_region 5 with (first
      | (rw [HV.out])
      | (go_at_call 23; ((with_reducible refine (NM.out _ (by assumption)).mono ?_); rintro e w' ⟨rfl, rfl⟩)))
    clear w1 n1 n2
    by_cases h16 : 16 < m
    · have e := Lib.hid (HR.out.trans (if_pos h16))
      have h16i : (16 : Int) < (m : Int) := by omega
      go_wp2
      go_ret
      exact ⟨by rw [e.out]; rfl, BV.out⟩
    have h16i : ¬ (16 : Int) < (m : Int) := by omega
    have HR2 := Lib.hid (HR.out.trans (if_neg h16))
    go_wp2
    go_loop [38] (fun i => ∃ j : Nat, j ≤ m ∧ i = .int .i64 j ∧ ∀ i < j, ∀ z, x.ad[i]? = some z → wrongA z = false) (fun i => m - (intOf i).toNat)
    case atStart => exact ⟨0, Nat.zero_le _, rfl, fun i hi => by omega⟩
    case round =>
      obtain ⟨j, hj, rfl, hno⟩ := hrel
      have HNO := Lib.hid hno
      clear hno
      by_cases hlt : j < m
      · obtain ⟨b, off, rfl, hl, hc⟩ := HA.out.2.2.2.2 (by omega)
        obtain ⟨z, hz⟩ : ∃ z, x.ad[j]? = some z := ⟨x.ad[j]'(by have := HM.out; omega), List.getElem?_eq_getElem _⟩
        have c0 := hc j z hz
        have HZ := Lib.hid hz
        clear hc hz
        by_cases z1 : z < 1
        · have e := Lib.hid (HR2.out.trans (if_pos (any_yes HZ.out (by simp [wrongA, z1]))))
          go_wp2
          go_ret
          exact ⟨by rw [e.out]; rfl, BV.out⟩
        · by_cases z2 : 4294967295 < z
          · have e := Lib.hid (HR2.out.trans (if_pos (any_yes HZ.out (by simp [wrongA, z2]))))
            go_wp2
            go_ret
            exact ⟨by rw [e.out]; rfl, BV.out⟩
          · have NX : Hid (∀ i < j + 1, ∀ z, x.ad[i]? = some z → wrongA z = false) := by
              intro i hi y hy
              by_cases e : i = j
              · subst e
                have h2 := HZ.out
                rw [hy] at h2
                injection h2 with h2
                rw [h2]; simp [wrongA, z1, z2]
              · exact HNO.out i (by omega) y hy
            go_wp2
            go_round
            case rel => exact ⟨j + 1, by omega, by go_num, NX.out⟩
            case measure => simp [intOf]; omega
      · obtain rfl : j = m := by omega
        have ha0 : anyW x.ad = false := any_no fun i z hz => HNO.out i (by have := (List.getElem?_eq_some_iff.1 hz).1; have := HM.out; omega) z hz
        have HR3 := Lib.hid (HR2.out.trans (if_neg (by simp [ha0])))
        clear ha0 HNO
        go_wp2
        go_loop [52] (fun i => ∃ q : Nat, q ≤ j ∧ i = .int .i64 q ∧ ∀ i < q, ∀ z, x.ad[i]? = some z → hasI (x.ad.take i) z = false) (fun i => j - (intOf i).toNat)
        case atStart => exact ⟨0, Nat.zero_le _, rfl, fun i hi => by omega⟩
        case round =>
          obtain ⟨q, hq, rfl, hno⟩ := hrel
          have HNO := Lib.hid hno
          clear hno
          by_cases hqt : q < j
          · obtain ⟨b, off, rfl, hl, hc⟩ := HA.out.2.2.2.2 (by omega)
            obtain ⟨z, hz⟩ : ∃ z, x.ad[q]? = some z := ⟨x.ad[q]'(by have := HM.out; omega), List.getElem?_eq_getElem _⟩
            have c0 := hc q z hz
            have HZ := Lib.hid hz
            have HC := Lib.hid hc
            have hjk : (q : Int) ≤ (k : Int) := by omega
            have hj0 : (0 : Int) ≤ (q : Int) := by omega
            clear hc hz
            go_wp2
            go_loop [62] (fun i => ∃ r : Nat, r ≤ q ∧ i = .int .i64 r ∧ ∀ i < r, ∀ y, x.ad[i]? = some y → y ≠ z) (fun i => q - (intOf i).toNat)
            case atStart => exact ⟨0, Nat.zero_le _, rfl, fun i hi => by omega⟩
            case round =>
              obtain ⟨r, hr, rfl, hno⟩ := hrel
              have HN2 := Lib.hid hno
              clear hno c0
              by_cases hrt : r < q
              · obtain ⟨y, hy⟩ : ∃ y, x.ad[r]? = some y := ⟨x.ad[r]'(by have := HM.out; omega), List.getElem?_eq_getElem _⟩
                have c1 := HC.out r y hy
                have HY := Lib.hid hy
                clear hy
                by_cases hzy : z = y
                · have e := Lib.hid (HR3.out.trans (if_pos (HD.out q z HZ.out (has_yes HY.out hrt hzy))))
                  have e1 : (z == y) = true := by simpa using hzy
                  clear hzy
                  go_wp2
                  go_ret
                  exact ⟨by rw [e.out]; rfl, BV.out⟩
                · have e1 : (z == y) = false := by simpa using hzy
                  have NX : Hid (∀ i < r + 1, ∀ u, x.ad[i]? = some u → u ≠ z) := by
                    intro i hi u hu
                    by_cases e : i = r
                    · subst e
                      have h2 := HY.out
                      rw [hu] at h2
                      injection h2 with h2
                      rw [h2]; exact fun e => hzy e.symm
                    · exact HN2.out i (by omega) u hu
                  clear hzy
                  go_wp2
                  go_round
                  case rel => exact ⟨r + 1, by omega, by go_num, NX.out⟩
                  case measure => simp [intOf]; omega
              · obtain rfl : r = q := by omega
                have NX : Hid (∀ i < r + 1, ∀ u, x.ad[i]? = some u → hasI (x.ad.take i) u = false) := by
                  intro i hi y hy
                  by_cases e : i = r
                  · subst e
                    have h2 := HZ.out
                    rw [hy] at h2
                    injection h2 with h2
                    rw [h2]
                    exact has_no fun a ha u hu => HN2.out a ha u hu
                  · exact HNO.out i (by omega) y hy
                go_wp2
                go_round
                case rel => exact ⟨r + 1, by omega, by go_num, NX.out⟩
                case measure => simp [intOf]; omega
          · obtain rfl : q = j := by omega
            have e : Hid (rightE x = 0) := by
              have h0 : dupA x.ad = false := dup_no fun i z hz => HNO.out i (by have := (List.getElem?_eq_some_iff.1 hz).1; have := HM.out; omega) z hz
              exact HR3.out.trans (if_neg (by simp [h0]))
            go_wp2
            go_ret
            exact ⟨by rw [e.out]; rfl, BV.out⟩
end Go.Proofs.YtjimoegegigoiaaDoor
namespace Go.Proofs.YtjimoegegigoiaaDoor
open Go.RowKit Go.Shelf
set_option maxRecDepth 100000
set_option maxHeartbeats 4000000
set_option linter.unusedSimpArgs false
set_option linter.unusedVariables false

open Classical in
/-- how well a line does -/
noncomputable def fitZ (x : Sec) (c s : ByteArray) : Int :=
  if x.cl = c then (if x.sv = s then 3 else if x.sv = star then 2 else -1) else if x.cl = star then (if x.sv = s then 1 else if x.sv = star then 0 else -1) else -1
theorem fit_any (x : Sec) (E : Option Addr) (m k : Nat) (c s : ByteArray) (w : World) : Calls Tryd.prog 51 #[.agg #[.string x.cl, .string x.sv, .string x.wd, .slice E m k], .string c, .string s] w fun e w' => e = .returned (.int .i64 (fitZ x c s)) ∧ Below w.heap.size w w' := by
  have q1 := word_eq x.cl c
  have q2 := word_eq x.sv s
  have q3 := star_list x.cl
  have q4 := star_list x.sv
  have BV : Hid (Below w.heap.size w (w.alloc (.cells #[.string x.cl, .string x.sv, .string x.wd, .slice E m k] 50))) := (Below.refl _ _).alloc (Nat.le_refl _) _
  by_cases h1 : x.cl = c
  · rw [decide_eq_true h1] at q1
    clear q3
    by_cases h2 : x.sv = s
    · rw [decide_eq_true h2] at q2
      have e : Hid (fitZ x c s = 3) := by show _ = _; unfold fitZ; rw [if_pos h1, if_pos h2]
      rw [e.out]
      clear h1 h2 q4
      go_enter Tryd.func51, Tryd.ntmps51
      go_wp2
      go_ret
      exact ⟨rfl, BV.out⟩
    · rw [decide_eq_false h2] at q2
      by_cases h3 : x.sv = star
      · rw [decide_eq_true h3] at q4
        have q5 : (x.sv.toList != [42]) = false := by simp [bne, q4]
        have e : Hid (fitZ x c s = 2) := by show _ = _; unfold fitZ; rw [if_pos h1, if_neg h2, if_pos h3]
        rw [e.out]
        clear h1 h2 h3
        go_enter Tryd.func51, Tryd.ntmps51
        go_wp2
        go_ret
        exact ⟨rfl, BV.out⟩
      · rw [decide_eq_false h3] at q4
        have q5 : (x.sv.toList != [42]) = true := by simp [bne, q4]
        have e : Hid (fitZ x c s = -1) := by show _ = _; unfold fitZ; rw [if_pos h1, if_neg h2, if_neg h3]
        rw [e.out]
        clear h1 h2 h3
        go_enter Tryd.func51, Tryd.ntmps51
        go_wp2
        go_ret
        exact ⟨rfl, BV.out⟩
  · rw [decide_eq_false h1] at q1
    by_cases h0 : x.cl = star
    · rw [decide_eq_true h0] at q3
      have q6 : (x.cl.toList != [42]) = false := by simp [bne, q3]
      by_cases h2 : x.sv = s
      · rw [decide_eq_true h2] at q2
        have e : Hid (fitZ x c s = 1) := by show _ = _; unfold fitZ; rw [if_neg h1, if_pos h0, if_pos h2]
        rw [e.out]
        clear h1 h2 q4 h0
        go_enter Tryd.func51, Tryd.ntmps51
        go_wp2
        go_ret
        exact ⟨rfl, BV.out⟩
      · rw [decide_eq_false h2] at q2
        by_cases h3 : x.sv = star
        · rw [decide_eq_true h3] at q4
          have q5 : (x.sv.toList != [42]) = false := by simp [bne, q4]
          have e : Hid (fitZ x c s = 0) := by show _ = _; unfold fitZ; rw [if_neg h1, if_pos h0, if_neg h2, if_pos h3]
          rw [e.out]
          clear h1 h2 h3 h0
          go_enter Tryd.func51, Tryd.ntmps51
          go_wp2
          go_ret
          exact ⟨rfl, BV.out⟩
        · rw [decide_eq_false h3] at q4
          have q5 : (x.sv.toList != [42]) = true := by simp [bne, q4]
          have e : Hid (fitZ x c s = -1) := by show _ = _; unfold fitZ; rw [if_neg h1, if_pos h0, if_neg h2, if_neg h3]
          rw [e.out]
          clear h1 h2 h3 h0
          go_enter Tryd.func51, Tryd.ntmps51
          go_wp2
          go_ret
          exact ⟨rfl, BV.out⟩
    · rw [decide_eq_false h0] at q3
      have q6 : (x.cl.toList != [42]) = true := by simp [bne, q3]
      have e : Hid (fitZ x c s = -1) := by show _ = _; unfold fitZ; rw [if_neg h1, if_neg h0]
      rw [e.out]
      clear h1 h0 q4
      go_enter Tryd.func51, Tryd.ntmps51
      go_wp2
      go_ret
      exact ⟨rfl, BV.out⟩
def lv (a b c d : Option Nat) : Int := if a.isSome then 3 else if b.isSome then 2 else if c.isSome then 1 else if d.isSome then 0 else -1
def pl (a b c d : Option Nat) : Option Nat := a.or (b.or (c.or d))
noncomputable def lvP (p : List Sec) (c s : ByteArray) : Int := lv (fst p c s) (fst p c star) (fst p star s) (fst p star star)
noncomputable def plP (p : List Sec) (c s : ByteArray) : Option Nat := pl (fst p c s) (fst p c star) (fst p star s) (fst p star star)
def plZ (o : Option Nat) : Int := match o with | none => -1 | some i => i
theorem lv_bd (a b c d : Option Nat) : -1 ≤ lv a b c d ∧ lv a b c d ≤ 3 := by
  unfold lv
  cases a <;> cases b <;> cases c <;> cases d <;> simp
theorem find_step (p : List Sec) (x : Sec) (c s : ByteArray) (hc : c ≠ star) (hs : s ≠ star) :
    lvP (p ++ [x]) c s = (if rightE x = 0 ∧ lvP p c s < fitZ x c s then fitZ x c s else lvP p c s) ∧ plP (p ++ [x]) c s = (if rightE x = 0 ∧ lvP p c s < fitZ x c s then some p.length else plP p c s) := by
  have hc' : star ≠ c := fun e => hc e.symm
  have hs' : star ≠ s := fun e => hs e.symm
  unfold lvP plP
  rw [fst_snoc, fst_snoc, fst_snoc, fst_snoc]
  generalize fst p c s = a
  generalize fst p c star = b
  generalize fst p star s = d
  generalize fst p star star = f
  generalize p.length = n
  unfold fitZ
  by_cases h0 : rightE x = 0
  · by_cases h1 : x.cl = c
    · by_cases h2 : x.sv = s
      · simp only [h0, h1, h2, hc, hs, and_true, and_false, false_and, true_and, if_true, if_false]
        cases a <;> cases b <;> cases d <;> cases f <;> simp [lv, pl]
      · by_cases h3 : x.sv = star
        · simp only [h0, h1, h2, h3, hc, hs', and_true, and_false, false_and, true_and, if_true, if_false]
          cases a <;> cases b <;> cases d <;> cases f <;> simp [lv, pl]
        · simp only [h0, h1, h2, h3, hc, and_true, and_false, false_and, true_and, if_true, if_false]
          cases a <;> cases b <;> cases d <;> cases f <;> simp [lv, pl]
    · by_cases h4 : x.cl = star
      · by_cases h2 : x.sv = s
        · simp only [h0, h4, h2, hc', hs, and_true, and_false, false_and, true_and, if_true, if_false]
          cases a <;> cases b <;> cases d <;> cases f <;> simp [lv, pl]
        · by_cases h3 : x.sv = star
          · simp only [h0, h4, h3, hc', hs', and_true, and_false, false_and, true_and, if_true, if_false]
            cases a <;> cases b <;> cases d <;> cases f <;> simp [lv, pl]
          · simp only [h0, h4, h2, h3, hc', and_true, and_false, false_and, true_and, if_true, if_false]
            cases a <;> cases b <;> cases d <;> cases f <;> simp [lv, pl]
      · simp only [h0, h1, h4, and_true, and_false, false_and, true_and, if_true, if_false]
        cases a <;> cases b <;> cases d <;> cases f <;> simp [lv, pl]
  · simp only [h0, and_false, false_and, if_false]
    cases a <;> cases b <;> cases d <;> cases f <;> simp [lv, pl]
theorem plP_bst (ss : List Sec) (c s : ByteArray) (hc : c ≠ star) (hs : s ≠ star) : plP ss c s = bst ss c s := by
  unfold plP bst pl
  rw [if_neg (fun h => h.elim hc hs)]
  unfold pairsOf
  simp only [List.findSome?]
  cases fst ss c s <;> cases fst ss c star <;> cases fst ss star s <;> cases fst ss star star <;> rfl
theorem plP_lt (ss : List Sec) (c s : ByteArray) {i : Nat} (h : plP ss c s = some i) : i < ss.length := by
  have key : ∀ {a b : ByteArray}, fst ss a b = some i → i < ss.length := fun h => by
    obtain ⟨x, hx, _⟩ := fst_lt h
    exact (List.getElem?_eq_some_iff.1 hx).1
  unfold plP pl at h
  cases e1 : fst ss c s with
  | some a => rw [e1] at h; simp at h; subst h; exact key e1
  | none =>
    cases e2 : fst ss c star with
    | some a => rw [e1, e2] at h; simp at h; subst h; exact key e2
    | none =>
      cases e3 : fst ss star s with
      | some a => rw [e1, e2, e3] at h; simp at h; subst h; exact key e3
      | none => rw [e1, e2, e3] at h; simp at h; exact key h
/-- what Find answers -/
def RFindR (w : World) (B : Nat) (ss : List Sec) (o : Option Nat) (e : Ending) (w' : World) : Prop :=
  Below w.heap.size w w' ∧ match o with
    | none => e = .returned (.tuple #[.agg #[.string ⟨#[]⟩, .string ⟨#[]⟩, .string ⟨#[]⟩, .slice none 0 0], .bool false])
    | some i => ∃ x E m k, ss[i]? = some x ∧ e = .returned (.tuple #[.agg #[.string x.cl, .string x.sv, .string x.wd, .slice E m k], .bool true]) ∧ AdRd w' B E m k x.ad
theorem rfind_any (A : Option Addr) (n c B : Nat) (ss : List Sec) (cl sv : ByteArray) (w : World) (h : SecRd w B A n ss) (hB : B ≤ w.heap.size) :
    Calls Tryd.prog 22 #[.slice A n c, .string cl, .string sv] w (RFindR w B ss (bst ss cl sv)) := by
  obtain ⟨V, hV⟩ : ∃ V, w.alloc (.cells #[.string ⟨#[]⟩, .string ⟨#[]⟩, .string ⟨#[]⟩, .slice none 0 0] 50) = V := ⟨_, rfl⟩
  have hBV : Below w.heap.size w V := by rw [← hV]; exact (Below.refl _ _).alloc (Nat.le_refl _) _
  have hnew : Blk V w.heap.size 50 [.string ⟨#[]⟩, .string ⟨#[]⟩, .string ⟨#[]⟩, .slice none 0 0] := by rw [← hV]; exact heap_alloc_new w _
  have HV := Lib.hid hV
  by_cases hst : cl = star ∨ sv = star
  · have hb : Hid (bst ss cl sv = none) := if_pos hst
    rw [hb.out]
    have r0 := hnew.cell 0
    have r1 := hnew.cell 1
    have r2 := hnew.cell 2
    have r3 := hnew.cell 3
    have g0 := hnew.frozen 0
    have g1 := hnew.frozen 1
    have g2 := hnew.frozen 2
    have g3 := hnew.frozen 3
    have lr := Blk.lt hnew
    have hb4 := blk4 (x := .string ⟨#[]⟩) (y := .string ⟨#[]⟩) (z := .string ⟨#[]⟩) (v := .slice none 0 0) hnew
    have R : Hid (RFindR w B ss none (.returned (.tuple #[.agg #[.string ⟨#[]⟩, .string ⟨#[]⟩, .string ⟨#[]⟩, .slice none 0 0], .bool false])) ((((V.setCell ⟨w.heap.size, 0, none⟩ (.string ⟨#[]⟩)).setCell ⟨w.heap.size, 1, none⟩ (.string ⟨#[]⟩)).setCell ⟨w.heap.size, 2, none⟩ (.string ⟨#[]⟩)).setCell ⟨w.heap.size, 3, none⟩ (.slice none 0 0))) :=
      ⟨hBV.grown (gset4 _ _ _ _ _ _) hBV.size (fun q e => by cases e; exact Nat.le_refl _), rfl⟩
    have y0 := hb4.cell 0
    have y1 := hb4.cell 1
    have y2 := hb4.cell 2
    have y3 := hb4.cell 3
    clear hV hBV hnew hb4 h
    by_cases h1 : cl = star
    · have e1 : (cl.toList == [42]) = true := by rw [star_list]; simpa using h1
      clear hst h1
      go_enter Tryd.func22, Tryd.ntmps22
      go_wp2_with (rw [HV.out])
      exact bodyPost_ret (v := .tuple #[.agg #[.string ⟨#[]⟩, .string ⟨#[]⟩, .string ⟨#[]⟩, .slice none 0 0], .bool false]) (by simp [results, Tryd.results22, go_sem, y0, y1, y2, y3]) rfl R.out
    · have h2 : sv = star := hst.resolve_left h1
      have e1 : (cl.toList == [42]) = false := by rw [star_list]; simpa using h1
      have e2 : (sv.toList == [42]) = true := by rw [star_list]; simpa using h2
      clear hst h1 h2
      go_enter Tryd.func22, Tryd.ntmps22
      go_wp2_with (rw [HV.out])
      exact bodyPost_ret (v := .tuple #[.agg #[.string ⟨#[]⟩, .string ⟨#[]⟩, .string ⟨#[]⟩, .slice none 0 0], .bool false]) (by simp [results, Tryd.results22, go_sem, y0, y1, y2, y3]) rfl R.out
  · have hc1 : cl ≠ star := fun e => hst (.inl e)
    have hs1 : sv ≠ star := fun e => hst (.inr e)
    have e1 : (cl.toList == [42]) = false := by rw [star_list]; simpa using hc1
    have e2 : (sv.toList == [42]) = false := by rw [star_list]; simpa using hs1
    have PB := Lib.hid (plP_bst ss cl sv hc1 hs1)
    have ST := Lib.hid (fun p x => find_step p x cl sv hc1 hs1)
    have HS := Lib.hid h
    have HN := Lib.hid hnew
    have BV := Lib.hid hBV
    have HL := Lib.hid h.1
    have hn := h.2.1
    have zV := hBV.size
    clear hst hc1 hs1 h hnew hBV hV
    go_enter Tryd.func22, Tryd.ntmps22
    go_wp2_with (rw [HV.out])
    go_loopw [8, 9, 22] (fun b a i wr => ∃ j : Nat, j ≤ n ∧ i = .int .i64 j ∧ b = .int .i64 (lvP (ss.take j) cl sv) ∧ a = .int .i64 (plZ (plP (ss.take j) cl sv)) ∧ Below V.heap.size V wr) (fun _ _ i _ => n - (intOf i).toNat)
    case atStart => exact ⟨0, Nat.zero_le _, rfl, by simp [lvP, fst, lv], by simp [plP, fst, pl, plZ], Below.refl _ _⟩
    case round =>
      rename_i wr
      obtain ⟨j, hj, rfl, rfl, rfl, hBw⟩ := hrel
      have HB := Lib.hid hBw
      have hsz := hBw.size
      clear hBw
      by_cases hlt : j < n
      · have hs := (HS.out.below (BV.out.trans (HB.out.mono zV)) hB)
        obtain ⟨x, b, off, E, m, k, hx, rfl, hb, ho, ha, c0, c1, c2, c3⟩ := hs.at_ j hlt
        have hbw : b < wr.heap.size := by omega
        obtain ⟨U, hU⟩ : ∃ U, wr.alloc (.cells #[.string x.cl, .string x.sv, .string x.wd, .slice E m k] 50) = U := ⟨_, rfl⟩
        have hBU : Below wr.heap.size wr U := by rw [← hU]; exact (Below.refl _ _).alloc (Nat.le_refl _) _
        have hnew : Blk U wr.heap.size 50 [.string x.cl, .string x.sv, .string x.wd, .slice E m k] := by rw [← hU]; exact heap_alloc_new wr _
        have v0 := hnew.cell 0
        have v1 := hnew.cell 1
        have v2 := hnew.cell 2
        have v3 := hnew.cell 3
        have haU := ha.below hBU (by omega)
        have hzU := hBU.size
        obtain ⟨fz, hfz⟩ : ∃ fz, fitZ x cl sv = fz := ⟨_, rfl⟩
        obtain ⟨rx, hrx⟩ : ∃ rx, rightE x = rx := ⟨_, rfl⟩
        obtain ⟨lz, hlz⟩ : ∃ lz, lvP (ss.take j) cl sv = lz := ⟨_, rfl⟩
        have st := ST.out (ss.take j) x
        rw [← take_one hx, hfz, hrx, hlz, List.length_take, Nat.min_eq_left (by have := HL.out; omega)] at st
        have FC : Hid (Calls Tryd.prog 51 #[.agg #[.string x.cl, .string x.sv, .string x.wd, .slice E m k], .string cl, .string sv] U fun e w1 => e = .returned (.int .i64 fz) ∧ Blk w1 wr.heap.size 50 [.string x.cl, .string x.sv, .string x.wd, .slice E m k] ∧
            Calls Tryd.prog 52 #[.agg #[.string x.cl, .string x.sv, .string x.wd, .slice E m k]] w1 fun e w2 => e = .returned (.int .i64 rx) ∧ Below V.heap.size V w2) := by
          refine (fit_any x E m k cl sv U).mono ?_
          rintro e w1 ⟨rfl, b1⟩
          refine ⟨by rw [hfz], (b1.block _ (Blk.lt hnew)).trans hnew, (rright_any x E m k B w1 ho (haU.below b1 (by omega)) (by have := b1.size; omega)).mono ?_⟩
          rintro e w2 ⟨rfl, b2⟩
          exact ⟨by rw [hrx], (HB.out.trans (hBU.mono hsz)).trans ((b1.trans (b2.mono b1.size)).mono (by omega))⟩
        have HU := Lib.hid hU
        rw [hlz]
        have HSt := Lib.hid st
        clear hU hBU hnew hs ha haU ho hx hrx hfz st hlz
        by_cases hr0 : rx = 0
        · subst hr0
          by_cases hgt : lz < fz
          · have A1 := Lib.hid (HSt.out.1.trans (if_pos ⟨rfl, hgt⟩))
            have A2 := Lib.hid (HSt.out.2.trans (if_pos ⟨rfl, hgt⟩))
            go_wp2_with (first
              | (rw [HU.out])
              | (go_at_call 51; ((with_reducible refine FC.out.mono ?_); rintro e w1 ⟨rfl, hb1, n1⟩; have u0 := hb1.cell 0; have u1 := hb1.cell 1; have u2 := hb1.cell 2; have u3 := hb1.cell 3; have N1 := Lib.hid n1; clear n1 hb1))
              | (go_at_call 52; ((with_reducible refine N1.out.mono ?_); rintro e w2 ⟨rfl, hB2⟩; have B2 := Lib.hid hB2; clear hB2)))
            go_roundw
            case rel => exact ⟨j + 1, by omega, by go_num, by rw [A1.out], by rw [A2.out]; rfl, B2.out⟩
            case measure => simp [intOf]; omega
          · have A1 := Lib.hid (HSt.out.1.trans (if_neg (fun h => hgt h.2)))
            have A2 := Lib.hid (HSt.out.2.trans (if_neg (fun h => hgt h.2)))
            go_wp2_with (first
              | (rw [HU.out])
              | (go_at_call 51; ((with_reducible refine FC.out.mono ?_); rintro e w1 ⟨rfl, hb1, n1⟩; have u0 := hb1.cell 0; have u1 := hb1.cell 1; have u2 := hb1.cell 2; have u3 := hb1.cell 3; have N1 := Lib.hid n1; clear n1 hb1))
              | (go_at_call 52; ((with_reducible refine N1.out.mono ?_); rintro e w2 ⟨rfl, hB2⟩; have B2 := Lib.hid hB2; clear hB2)))
            go_roundw
            case rel => exact ⟨j + 1, by omega, by go_num, by rw [A1.out], by rw [A2.out], B2.out⟩
            case measure => simp [intOf]; omega
        · have A1 := Lib.hid (HSt.out.1.trans (if_neg (fun h => hr0 h.1)))
          have A2 := Lib.hid (HSt.out.2.trans (if_neg (fun h => hr0 h.1)))
          have r1 : (rx == 0) = false := by simpa using hr0
          clear hr0
          go_wp2_with (first
            | (rw [HU.out])
            | (go_at_call 51; ((with_reducible refine FC.out.mono ?_); rintro e w1 ⟨rfl, hb1, n1⟩; have u0 := hb1.cell 0; have u1 := hb1.cell 1; have u2 := hb1.cell 2; have u3 := hb1.cell 3; have N1 := Lib.hid n1; clear n1 hb1))
            | (go_at_call 52; ((with_reducible refine N1.out.mono ?_); rintro e w2 ⟨rfl, hB2⟩; have B2 := Lib.hid hB2; clear hB2)))
          go_roundw
          case rel => exact ⟨j + 1, by omega, by go_num, by rw [A1.out], by rw [A2.out], B2.out⟩
          case measure => simp [intOf]; omega
      · obtain rfl : j = n := by omega
        have htk : ss.take j = ss := List.take_of_length_le (by have := HL.out; omega)
        rw [htk, PB.out]
        have hN2 : Blk wr w.heap.size 50 [.string ⟨#[]⟩, .string ⟨#[]⟩, .string ⟨#[]⟩, .slice none 0 0] := (HB.out.block _ (Blk.lt HN.out)).trans HN.out
        have r0 := hN2.cell 0
        have r1 := hN2.cell 1
        have r2 := hN2.cell 2
        have r3 := hN2.cell 3
        have g0 := hN2.frozen 0
        have g1 := hN2.frozen 1
        have g2 := hN2.frozen 2
        have g3 := hN2.frozen 3
        have lr := Blk.lt hN2
        have BW : Below w.heap.size w wr := BV.out.trans (HB.out.mono zV)
        cases hbs : bst ss cl sv with
        | none =>
          have hb4 := blk4 (x := .string ⟨#[]⟩) (y := .string ⟨#[]⟩) (z := .string ⟨#[]⟩) (v := .slice none 0 0) hN2
          have R : Hid (RFindR w B ss none (.returned (.tuple #[.agg #[.string ⟨#[]⟩, .string ⟨#[]⟩, .string ⟨#[]⟩, .slice none 0 0], .bool false])) ((((wr.setCell ⟨w.heap.size, 0, none⟩ (.string ⟨#[]⟩)).setCell ⟨w.heap.size, 1, none⟩ (.string ⟨#[]⟩)).setCell ⟨w.heap.size, 2, none⟩ (.string ⟨#[]⟩)).setCell ⟨w.heap.size, 3, none⟩ (.slice none 0 0))) :=
            ⟨BW.grown (gset4 _ _ _ _ _ _) BW.size (fun q e => by cases e; exact Nat.le_refl _), rfl⟩
          have y0 := hb4.cell 0
          have y1 := hb4.cell 1
          have y2 := hb4.cell 2
          have y3 := hb4.cell 3
          have HBS := Lib.hid hbs
          clear hb4 hN2 htk BW hbs
          go_wp2
          exact bodyPost_ret (v := .tuple #[.agg #[.string ⟨#[]⟩, .string ⟨#[]⟩, .string ⟨#[]⟩, .slice none 0 0], .bool false]) (by simp [results, Tryd.results22, go_sem, y0, y1, y2, y3]) rfl (by rw [HBS.out]; exact R.out)
        | some i =>
          have hi : i < j := by
            have := plP_lt ss cl sv (i := i) (by rw [PB.out]; exact hbs)
            have := HL.out
            omega
          have hs := HS.out.below BW hB
          obtain ⟨x, b, off, E, m, k, hx, rfl, hb, ho, ha, c0, c1, c2, c3⟩ := hs.at_ i hi
          have hbw : b < wr.heap.size := by have := BW.size; omega
          have hb4 := blk4 (x := .string x.cl) (y := .string x.sv) (z := .string x.wd) (v := .slice E m k) hN2
          have gW := gset4 wr w.heap.size (.string x.cl) (.string x.sv) (.string x.wd) (.slice E m k)
          have R : Hid (RFindR w B ss (some i) (.returned (.tuple #[.agg #[.string x.cl, .string x.sv, .string x.wd, .slice E m k], .bool true])) ((((wr.setCell ⟨w.heap.size, 0, none⟩ (.string x.cl)).setCell ⟨w.heap.size, 1, none⟩ (.string x.sv)).setCell ⟨w.heap.size, 2, none⟩ (.string x.wd)).setCell ⟨w.heap.size, 3, none⟩ (.slice E m k))) :=
            ⟨BW.grown gW BW.size (fun q e => by cases e; exact Nat.le_refl _), x, E, m, k, hx, rfl, ha.below ((Below.refl w.heap.size wr).grown gW BW.size (fun q e => by cases e; exact Nat.le_refl _)) hB⟩
          have y0 := hb4.cell 0
          have y1 := hb4.cell 1
          have y2 := hb4.cell 2
          have y3 := hb4.cell 3
          have hiB : (0 : Int) ≤ (i : Int) := by omega
          have hpz : plZ (some i) = (i : Int) := rfl
          rw [hpz]
          have HBS := Lib.hid hbs
          clear hb4 hN2 htk BW hbs hs ho ha hx gW hpz
          go_wp2
          exact bodyPost_ret (v := .tuple #[.agg #[.string x.cl, .string x.sv, .string x.wd, .slice E m k], .bool true]) (by simp [results, Tryd.results22, go_sem, y0, y1, y2, y3]) rfl (by rw [HBS.out]; exact R.out)
end Go.Proofs.YtjimoegegigoiaaDoor
