/-
  tetherref06.One, Same.
-/
import Derived.Test.YtglboagjmbjehaaSeTable
import Derived.StillTailTactics
import Derived.BigQuiet
namespace Go.Proofs.Ytglboagjmbjehaa
open Go.RowKit Go.Shelf
set_option maxRecDepth 100000
set_option maxHeartbeats 4000000
set_option linter.unusedSimpArgs false
set_option linter.unusedVariables false

open Classical in
/-- are two secrets alike? -/
noncomputable def oneB (x y : Sec) : Bool := decide (x = y)
theorem oneB_no {x y : Sec} (h : x ≠ y) : oneB x y = false := by unfold oneB; simpa using h
theorem oneB_yes {x y : Sec} (h : x = y) : oneB x y = true := by unfold oneB; simpa using h
theorem word_ne {a b : ByteArray} (h : a ≠ b) : (a.toList == b.toList) = false ∧ (a.toList != b.toList) = true := by
  have := word_eq a b
  rw [decide_eq_false h] at this
  exact ⟨this, by simp [bne, this]⟩
theorem one_any (x y : Sec) (E E' : Option Addr) (m k m' k' B : Nat) (w : World) (hx : AdRd w B E m k x.ad) (hy : AdRd w B E' m' k' y.ad) (hB : B ≤ w.heap.size) :
    Calls Try.prog 34 #[.agg #[.string x.cl, .string x.sv, .string x.wd, .slice E m k], .agg #[.string y.cl, .string y.sv, .string y.wd, .slice E' m' k']] w fun e w' => e = .returned (.bool (oneB x y)) ∧ Below w.heap.size w w' := by
  obtain ⟨V, hV⟩ : ∃ V, (w.alloc (.cells #[.string x.cl, .string x.sv, .string x.wd, .slice E m k] 26)).alloc (.cells #[.string y.cl, .string y.sv, .string y.wd, .slice E' m' k'] 26) = V := ⟨_, rfl⟩
  have hBV : Below w.heap.size w V := by rw [← hV]; exact ((Below.refl _ _).alloc (Nat.le_refl _) _).alloc (by simp) _
  have h0 : Blk V w.heap.size 26 [.string x.cl, .string x.sv, .string x.wd, .slice E m k] := by
    rw [← hV]
    exact (Below.heap_alloc _ _ _ (by simp)).trans (heap_alloc_new w _)
  have h1 : Blk V (w.heap.size + 1) 26 [.string y.cl, .string y.sv, .string y.wd, .slice E' m' k'] := by
    rw [← hV]
    have h := heap_alloc_new (w.alloc (.cells #[.string x.cl, .string x.sv, .string x.wd, .slice E m k] 26)) (.cells #[.string y.cl, .string y.sv, .string y.wd, .slice E' m' k'] 26)
    rw [World.size_alloc] at h
    exact h
  have p0 := h0.cell 0
  have p1 := h0.cell 1
  have p2 := h0.cell 2
  have p3 := h0.cell 3
  have q0 := h1.cell 0
  have q1 := h1.cell 1
  have q2 := h1.cell 2
  have q3 := h1.cell 3
  have HV := Lib.hid hV
  have BV := Lib.hid hBV
  have HX := Lib.hid (hx.below hBV hB)
  have HY := Lib.hid (hy.below hBV hB)
  have hBs : B ≤ V.heap.size := Nat.le_trans hB hBV.size
  clear hV hBV h0 h1 hx hy
  by_cases c0 : x.cl = y.cl
  case neg =>
    have e : Hid (oneB x y = false) := oneB_no (fun h => c0 (by rw [h]))
    rw [e.out]
    obtain ⟨e1, e2⟩ := word_ne c0
    clear c0
    go_enter Try.func34, Try.ntmps34
    go_wp2_with (rw [HV.out])
    go_ret
    exact ⟨rfl, BV.out⟩
  by_cases c1 : x.sv = y.sv
  case neg =>
    have e : Hid (oneB x y = false) := oneB_no (fun h => c1 (by rw [h]))
    rw [e.out]
    obtain ⟨e1, e2⟩ := word_ne c1
    rw [← c0] at q0
    clear c0 c1
    go_enter Try.func34, Try.ntmps34
    go_wp2_with (rw [HV.out])
    go_ret
    exact ⟨rfl, BV.out⟩
  by_cases c2 : x.wd = y.wd
  case neg =>
    have e : Hid (oneB x y = false) := oneB_no (fun h => c2 (by rw [h]))
    rw [e.out]
    obtain ⟨e1, e2⟩ := word_ne c2
    rw [← c0] at q0
    rw [← c1] at q1
    clear c0 c1 c2
    go_enter Try.func34, Try.ntmps34
    go_wp2_with (rw [HV.out])
    go_ret
    exact ⟨rfl, BV.out⟩
  have hs : x.ad = y.ad → oneB x y = true := fun h => oneB_yes (by
    cases x
    cases y
    simp only at c0 c1 c2 h
    subst c0 c1 c2 h
    rfl)
  have HS := Lib.hid hs
  have HE : Hid (x.ad ≠ y.ad → oneB x y = false) := fun h => oneB_no (fun h2 => h (by rw [h2]))
  rw [← c0] at q0
  rw [← c1] at q1
  rw [← c2] at q2
  clear c0 c1 c2 hs
  have l1 := HX.out.1
  have l2 := HY.out.1
  by_cases hm : m = m'
  case neg =>
    have e : Hid (oneB x y = false) := HE.out (fun h => hm (by rw [← l1, ← l2, h]))
    rw [e.out]
    have e1 : ((m : Int) == (m' : Int)) = false := by simp; omega
    have e2 : ((m : Int) != (m' : Int)) = true := by simp; omega
    have e3 : (m == m') = false := by simpa using hm
    clear l1 l2
    go_enter Try.func34, Try.ntmps34
    go_wp2_with (rw [HV.out])
    go_ret
    exact ⟨rfl, BV.out⟩
  subst hm
  have L1 := Lib.hid l1
  have L2 := Lib.hid l2
  have hmx := HX.out.2.2.2.1
  clear l1 l2
  go_enter Try.func34, Try.ntmps34
  go_wp2_with (rw [HV.out])
  go_loopw [37] (fun i wr => ∃ j : Nat, j ≤ m ∧ i = .int .i64 j ∧ Below V.heap.size V wr ∧ ∀ i < j, x.ad[i]? = y.ad[i]?) (fun i _ => m - (intOf i).toNat)
  case atStart => exact ⟨0, Nat.zero_le _, rfl, Below.refl _ _, fun i hi => by omega⟩
  case round =>
    rename World => wr
    obtain ⟨j, hj, rfl, hBw, hall⟩ := hrel
    have HA := Lib.hid hall
    have HB := Lib.hid hBw
    have hsz := hBw.size
    clear hall
    by_cases hlt : j < m
    · obtain ⟨z, hz⟩ : ∃ z, x.ad[j]? = some z := ⟨x.ad[j]'(by have := L1.out; omega), List.getElem?_eq_getElem _⟩
      obtain ⟨u, hu⟩ : ∃ u, y.ad[j]? = some u := ⟨y.ad[j]'(by have := L2.out; omega), List.getElem?_eq_getElem _⟩
      obtain ⟨b, off, rfl, hl, hc⟩ := HX.out.2.2.2.2 (by omega)
      obtain ⟨b', off', rfl, hl', hc'⟩ := HY.out.2.2.2.2 (by omega)
      have v0 : wr.cell? ⟨b, off + j, none⟩ = some (.int .i64 z) := (hBw.cell (p := ⟨b, off + j, none⟩) (by show b < _; omega)).trans (hc j z hz)
      have v1 : wr.cell? ⟨b', off' + j, none⟩ = some (.int .i64 u) := (hBw.cell (p := ⟨b', off' + j, none⟩) (by show b' < _; omega)).trans (hc' j u hu)
      have zV : w.heap.size + 1 < V.heap.size := by have := World.block_lt_of_cell? _ _ q0; exact this
      replace p3 : wr.cell? ⟨w.heap.size, 3, none⟩ = _ := (hBw.cell (p := ⟨w.heap.size, 3, none⟩) (by show w.heap.size < _; omega)).trans p3
      replace q3 : wr.cell? ⟨w.heap.size + 1, 3, none⟩ = _ := (hBw.cell (p := ⟨w.heap.size + 1, 3, none⟩) (by show w.heap.size + 1 < _; omega)).trans q3
      have j0 : (0 : Int) ≤ (j : Int) := by omega
      have jn : (j : Int) < (m : Int) := by omega
      clear hc hc' hBw p0 p1 p2 q0 q1 q2
      by_cases hzu : z = u
      · subst hzu
        have NX : Hid (∀ i < j + 1, x.ad[i]? = y.ad[i]?) := fun i hi => by
          by_cases e : i = j
          · rw [e, hz, hu]
          · exact HA.out i (by omega)
        clear hz hu
        go_upto_region 6 with (fail)
        go_quiet (fail)
        go_wp2
        go_roundw
        case rel => exact ⟨j + 1, by omega, by go_num, below_drewS HB.out _, NX.out⟩
        case measure => simp [intOf]; omega
      · have e : Hid (oneB x y = false) := HE.out (fun h => hzu (by rw [h, hu] at hz; injection hz with hz; exact hz.symm))
        have e1 : (z == u) = false := by simpa using hzu
        have e2 : (z != u) = true := by simpa using hzu
        clear hz hu hzu
        go_upto_region 6 with (fail)
        go_quiet (fail)
        go_wp2
        go_ret
        exact ⟨by rw [e.out]; rfl, BV.out.trans ((below_drewS HB.out _).mono BV.out.size)⟩
    · obtain rfl : j = m := by omega
      have e : Hid (oneB x y = true) := HS.out (List.ext_getElem? fun i => by
        by_cases hi : i < j
        · exact HA.out i hi
        · rw [List.getElem?_eq_none (by have := L1.out; omega), List.getElem?_eq_none (by have := L2.out; omega)])
      clear hBw
      go_wp2
      go_ret
      exact ⟨by rw [e.out]; rfl, BV.out.trans (HB.out.mono BV.out.size)⟩
open Classical in
/-- are two lists of secrets alike? -/
noncomputable def sameS (x y : List Sec) : Bool := decide (x = y)
theorem rsameS_any (A A' : Option Addr) (n c n' c' B : Nat) (ss tt : List Sec) (w : World) (h : SecRd w B A n ss) (h' : SecRd w B A' n' tt) (hB : B ≤ w.heap.size) :
    Calls Try.prog 8 #[.slice A n c, .slice A' n' c'] w fun e w' => e = .returned (.bool (sameS ss tt)) ∧ Below w.heap.size w w' := by
  have HX := Lib.hid h
  have HY := Lib.hid h'
  have l1 := h.1
  have l2 := h'.1
  have hm := h.2.1
  clear h h'
  by_cases hn : n = n'
  case neg =>
    have e : Hid (sameS ss tt = false) := by show _ = _; unfold sameS; simp; intro h; exact hn (by rw [← l1, ← l2, h])
    rw [e.out]
    have e1 : ((n : Int) == (n' : Int)) = false := by simp; omega
    have e2 : ((n : Int) != (n' : Int)) = true := by simp; omega
    have e3 : (n == n') = false := by simpa using hn
    clear l1 l2
    go_enter Try.func8, Try.ntmps8
    go_wp2
    go_ret
    exact ⟨rfl, Below.refl _ _⟩
  subst hn
  have L1 := Lib.hid l1
  have L2 := Lib.hid l2
  clear l1 l2
  go_enter Try.func8, Try.ntmps8
  go_wp2
  go_loopw [13] (fun i wr => ∃ j : Nat, j ≤ n ∧ i = .int .i64 j ∧ Below w.heap.size w wr ∧ ∀ i < j, ss[i]? = tt[i]?) (fun i _ => n - (intOf i).toNat)
  case atStart => exact ⟨0, Nat.zero_le _, rfl, Below.refl _ _, fun i hi => by omega⟩
  case round =>
    rename World => wr
    obtain ⟨j, hj, rfl, hBw, hall⟩ := hrel
    have HA := Lib.hid hall
    have HB := Lib.hid hBw
    have hsz := hBw.size
    clear hall
    by_cases hlt : j < n
    · obtain ⟨x, b, off, E, m, k, hx, rfl, hb, ho, ha, c0, c1, c2, c3⟩ := (HX.out.below hBw hB).at_ j hlt
      obtain ⟨y, b', off', E', m', k', hy, rfl, hb', ho', ha', d0, d1, d2, d3⟩ := (HY.out.below hBw hB).at_ j hlt
      have ON := Lib.hid (one_any x y E E' m k m' k' B wr.drew (ha.below (below_drewS (Below.refl B wr) 1) (Nat.le_refl _)) (ha'.below (below_drewS (Below.refl B wr) 1) (Nat.le_refl _)) (by show B ≤ wr.heap.size; omega))
      have HXX := Lib.hid hx
      have HYY := Lib.hid hy
      obtain ⟨r, hr⟩ : ∃ r, oneB x y = r := ⟨_, rfl⟩
      rw [hr] at ON
      have HR := Lib.hid hr
      have j0 : (0 : Int) ≤ (j : Int) := by omega
      have jn : (j : Int) < (n : Int) := by omega
      have fin : Hid (∀ W, Below wr.drew.heap.size wr.drew W → Below w.heap.size w W) := fun W hW => (below_drewS HB.out 1).trans (hW.mono hsz)
      clear ha ha' hx hy hBw hr ho ho'
      cases r
      · have e : Hid (sameS ss tt = false) := by
          show _ = _
          unfold sameS
          simp
          intro h
          have h1 := HXX.out
          rw [h, HYY.out] at h1
          injection h1 with h1
          have h2 := HR.out
          rw [oneB_yes h1.symm] at h2
          cases h2
        go_upto_region 6 with (fail)
        go_still_tail 8, (by kernel_rfl)
        go_wp2_with (go_at_call 34; ((with_reducible refine ON.out.mono ?_); rintro e w2 ⟨rfl, n1⟩; have N1 := Lib.hid n1; clear n1))
        go_ret
        exact ⟨by rw [e.out]; rfl, fin.out _ N1.out⟩
      · have NX : Hid (∀ i < j + 1, ss[i]? = tt[i]?) := fun i hi => by
          by_cases e : i = j
          · rw [e, HXX.out, HYY.out]
            congr 1
            have h2 := HR.out
            unfold oneB at h2
            simpa using h2
          · exact HA.out i (by omega)
        go_upto_region 6 with (fail)
        go_still_tail 8, (by kernel_rfl)
        go_wp2_with (go_at_call 34; ((with_reducible refine ON.out.mono ?_); rintro e w2 ⟨rfl, n1⟩; have N1 := Lib.hid n1; clear n1))
        go_roundw
        case rel => exact ⟨j + 1, by omega, by go_num, fin.out _ N1.out, NX.out⟩
        case measure => simp [intOf]; omega
    · obtain rfl : j = n := by omega
      have e : Hid (sameS ss tt = true) := by
        show _ = _
        unfold sameS
        simp
        exact List.ext_getElem? fun i => by
          by_cases hi : i < j
          · exact HA.out i hi
          · rw [List.getElem?_eq_none (by have := L1.out; omega), List.getElem?_eq_none (by have := L2.out; omega)]
      clear hBw
      go_wp2
      go_ret
      exact ⟨by rw [e.out]; rfl, HB.out⟩
end Go.Proofs.Ytglboagjmbjehaa
