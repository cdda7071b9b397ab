/-
  tetherref11.Default, size, twice, Auth, Method.
-/
import Derived.Test.YtonbdcajepmgbaaLcReadA
import Derived.Test.YtonbdcajepmgbaaLcRef
namespace Go.Proofs.Ytonbdcajepmgbaa
open Go.RowKit
set_option maxRecDepth 100000
set_option maxHeartbeats 2000000
set_option linter.unusedSimpArgs false
set_option linter.unusedVariables false

theorem rdefault_any (w : World) : Calls Try.prog 53 #[] w fun e w' => e = .returned (.agg #[.int .i64 1500, .int .i64 4294967295, .int .i64 0, .int .u32 0, .bool false, .bool false]) ∧ Below w.heap.size w w' := by
  have hzv : ∀ W, (zeroValue 74).run Try.prog W = .ok (.agg #[.int .i64 0, .int .i64 0, .int .i64 0, .int .u32 0, .bool false, .bool false]) W := fun W => by kernel_rfl
  go_enter Try.func53, Try.ntmps53
  go_wp2
  exact bodyPost_ret (v := .agg #[.int .i64 1500, .int .i64 4294967295, .int .i64 0, .int .u32 0, .bool false, .bool false]) (by simp [results, Try.results53, go_sem]) rfl ⟨rfl, (Below.refl _ _).alloc (Nat.le_refl _) _⟩
/-- whether data are as long as their type says -/
def sizeB (K : Int) (n : Nat) : Bool := if K = 1 then decide (n = 2) else if K = 2 ∨ K = 5 then decide (n = 4) else if K = 3 then decide (2 ≤ n) else if K = 7 ∨ K = 8 then decide (n = 0) else false
theorem int_beq (n m : Nat) : ((n : Int) == (m : Int)) = decide (n = m) := by
  by_cases h : n = m
  · simp [h]
  · have : ¬ ((n : Int) = (m : Int)) := by omega
    simp [h]
    exact this
theorem size_any (K : Int) (D : Option Addr) (k c : Nat) (w : World) :
    Calls Try.prog 108 #[.agg #[.int .i64 K, .slice D k c]] w fun e w' => e = .returned (.bool (sizeB K k)) ∧ Below w.heap.size w w' := by
  have i2 := int_beq k 2
  have i4 := int_beq k 4
  have i0 := int_beq k 0
  have g2 : decide ((2 : Int) ≤ (k : Int)) = decide (2 ≤ k) := by by_cases h : 2 ≤ k <;> simp [h] <;> omega
  by_cases h1 : K = 1
  · subst h1
    have E : Hid (sizeB 1 k = decide (k = 2)) := by show _ = _; rfl
    generalize decide (k = 2) = r at *
    go_enter Try.func108, Try.ntmps108
    go_wp2
    go_ret
    exact ⟨by rw [E.out, ← i2]; rfl, (Below.refl _ _).alloc (Nat.le_refl _) _⟩
  by_cases h2 : K = 2
  · subst h2
    have E : Hid (sizeB 2 k = decide (k = 4)) := by show _ = _; rfl
    generalize decide (k = 4) = r at *
    go_enter Try.func108, Try.ntmps108
    go_wp2
    go_ret
    exact ⟨by rw [E.out, ← i4]; rfl, (Below.refl _ _).alloc (Nat.le_refl _) _⟩
  by_cases h5 : K = 5
  · subst h5
    have E : Hid (sizeB 5 k = decide (k = 4)) := by show _ = _; rfl
    generalize decide (k = 4) = r at *
    go_enter Try.func108, Try.ntmps108
    go_wp2
    go_ret
    exact ⟨by rw [E.out, ← i4]; rfl, (Below.refl _ _).alloc (Nat.le_refl _) _⟩
  by_cases h3 : K = 3
  · subst h3
    have E : Hid (sizeB 3 k = decide (2 ≤ k)) := by show _ = _; rfl
    generalize decide (2 ≤ k) = r at *
    go_enter Try.func108, Try.ntmps108
    go_wp2
    go_ret
    exact ⟨by rw [E.out, ← g2]; rfl, (Below.refl _ _).alloc (Nat.le_refl _) _⟩
  by_cases h7 : K = 7
  · subst h7
    have E : Hid (sizeB 7 k = decide (k = 0)) := by show _ = _; rfl
    generalize decide (k = 0) = r at *
    go_enter Try.func108, Try.ntmps108
    go_wp2
    go_ret
    exact ⟨by rw [E.out, ← i0]; rfl, (Below.refl _ _).alloc (Nat.le_refl _) _⟩
  by_cases h8 : K = 8
  · subst h8
    have E : Hid (sizeB 8 k = decide (k = 0)) := by show _ = _; rfl
    generalize decide (k = 0) = r at *
    go_enter Try.func108, Try.ntmps108
    go_wp2
    go_ret
    exact ⟨by rw [E.out, ← i0]; rfl, (Below.refl _ _).alloc (Nat.le_refl _) _⟩
  · have e1 : (K == 1) = false := by simpa using h1
    have e2 : (K == 2) = false := by simpa using h2
    have e5 : (K == 5) = false := by simpa using h5
    have e3 : (K == 3) = false := by simpa using h3
    have e7 : (K == 7) = false := by simpa using h7
    have e8 : (K == 8) = false := by simpa using h8
    have E : Hid (sizeB K k = false) := by show _ = _; unfold sizeB; simp [h1, h2, h5, h3, h7, h8]
    clear h1 h2 h5 h3 h7 h8
    go_enter Try.func108, Try.ntmps108
    go_wp2
    go_ret
    exact ⟨by rw [E.out]; rfl, (Below.refl _ _).alloc (Nat.le_refl _) _⟩
theorem size_no {K : Int} {l : List UInt8} {o : LOpts} (h : sizeB K l.length = false) : withO o (K, l) = none := by
  unfold sizeB at h
  unfold withO
  by_cases h1 : K = 1
  · rw [if_pos h1] at h
    have : l.length ≠ 2 := by simpa using h
    rw [if_pos h1, if_neg (fun e => this e.1)]
  by_cases h2 : K = 2
  · rw [if_neg h1, if_pos (.inl h2)] at h
    have : l.length ≠ 4 := by simpa using h
    rw [if_neg h1, if_pos h2, if_neg this]
  by_cases h3 : K = 3
  · rw [if_neg h1, if_neg (by omega), if_pos h3] at h
    have : ¬ 2 ≤ l.length := by simpa using h
    have hm : mth l = 0 := by
      refine mth_no l fun j h1 h4 e => this ?_
      rw [e]
      rcases (show j = 1 ∨ j = 2 ∨ j = 3 by omega) with rfl | rfl | rfl <;> decide
    rw [if_neg h1, if_neg h2, if_pos h3, if_neg (by simpa using hm)]
  by_cases h5 : K = 5
  · rw [if_neg h1, if_pos (.inr h5)] at h
    have : l.length ≠ 4 := by simpa using h
    rw [if_neg h1, if_neg h2, if_neg h3, if_pos h5, if_neg (fun e => this e.1)]
  rw [if_neg h1, if_neg (by omega), if_neg h3] at h
  by_cases h7 : K = 7
  · rw [if_pos (.inl h7)] at h
    have : ¬ l.length = 0 := by simpa using h
    rw [if_neg h1, if_neg h2, if_neg h3, if_neg h5, if_pos h7, if_neg this]
  by_cases h8 : K = 8
  · rw [if_pos (.inr h8)] at h
    have : ¬ l.length = 0 := by simpa using h
    rw [if_neg h1, if_neg h2, if_neg h3, if_neg h5, if_neg h7, if_pos h8, if_neg this]
  · rw [if_neg h1, if_neg h2, if_neg h3, if_neg h5, if_neg h7, if_neg h8]
theorem kinds_more (s : List Opt) (k : Nat) (h : k < s.length) (K : Int) : (kinds (s.take (k + 1))).contains K = ((kinds (s.take k)).contains K || (s[k].1 == K)) := by
  rw [kinds_take s k h]
  by_cases e : s[k].1 = K
  · simp [e]
  · have e' : ¬ K = s[k].1 := fun h => e h.symm
    simp [e, e']
theorem twice_any (A : Option Addr) (n c i B : Nat) (s : List Opt) (w : World) (hr : OptRd w B A n s) (hB : B ≤ w.heap.size) (hi : i < n) (hn : n ≤ 4398046511104) :
    Calls Try.prog 109 #[.slice A n c, .int .i64 (i : Int)] w fun e w' => e = .returned (.bool ((kinds (s.take i)).contains (s[i]'(by have := hr.1; omega)).1)) ∧ Below w.heap.size w w' := by
  have hlen := hr.1
  obtain ⟨b, off, rfl, hbl, hc⟩ := hr.2 (by omega)
  obtain ⟨y1, -⟩ := hc i (by omega)
  obtain ⟨J, hJ⟩ : ∃ J, (s[i]'(by omega)).1 = J := ⟨_, rfl⟩
  rw [hJ] at y1 ⊢
  have HC := Lib.hid (show ∀ j (h : j < s.length), w.cell? ⟨b, off + j * 2, none⟩ = some (.int .i64 s[j].1) from fun j h => (hc j h).1)
  clear hc hr hJ
  go_enter Try.func109, Try.ntmps109
  go_wp2
  go_loopw [5] (fun v wr => ∃ (V : World) (k : Nat), V = wr ∧ k ≤ i ∧ v = .int .i64 k ∧ Hid ((kinds (s.take k)).contains J = false ∧ Below w.heap.size w V)) (fun v _ => i - (intOf v).toNat)
  case atStart => exact ⟨_, 0, rfl, Nat.zero_le _, rfl, rfl, Below.refl _ _⟩
  case round =>
    obtain ⟨V, k, rfl, hk, rfl, hJ⟩ := hrel
    obtain ⟨hno, hBV⟩ := hJ.out
    have HB := Lib.hid hBV
    by_cases hlt : k < i
    · have x1 := (hBV.cell (show b < w.heap.size by omega)).trans (HC.out k (by omega))
      have y2 := (hBV.cell (show b < w.heap.size by omega)).trans y1
      have hm := kinds_more s k (by omega) J
      rw [hno, Bool.false_or] at hm
      obtain ⟨K, hK⟩ : ∃ K, (s[k]'(by omega)).1 = K := ⟨_, rfl⟩
      rw [hK] at x1 hm
      have HM := Lib.hid hm
      by_cases he : K = J
      · have e1 : (K == J) = true := by simpa using he
        rw [e1] at hm
        have HT : Hid ((kinds (s.take i)).contains J = true) := by
          show _ = _
          rw [List.contains_iff_mem] at hm ⊢
          unfold kinds at hm ⊢
          rw [List.mem_map] at hm ⊢
          obtain ⟨y, hy, ey⟩ := hm
          refine ⟨y, ?_, ey⟩
          rw [List.mem_take_iff_getElem] at hy ⊢
          obtain ⟨j, hj, e⟩ := hy
          exact ⟨j, by omega, e⟩
        clear hm hno he hK hJ hBV
        go_wp2
        go_quiet (fail)
        go_wp2
        go_ret
        exact ⟨by rw [HT.out]; rfl, below_drewN HB.out _⟩
      · have e1 : (K == J) = false := by simpa using he
        rw [e1] at hm
        have HN := Lib.hid hm
        clear hm hno he hK hJ hBV
        go_wp2
        go_quiet (fail)
        go_wp2
        go_roundw
        case rel => exact ⟨_, k + 1, rfl, by omega, by go_num, HN.out, below_drewN HB.out _⟩
        case measure => simp [intOf]; omega
    · have : k = i := by omega
      subst this
      have HN := Lib.hid hno
      clear hno hJ hBV
      go_wp2
      go_ret
      exact ⟨by rw [HN.out]; rfl, HB.out⟩
theorem rauth_any (m : Int) (w : World) :
    Calls Try.prog 48 #[.int .i64 m] w fun e w' => ∃ D k c, e = .returned (.slice D k c) ∧ Own w' w.heap.size (.slice D k c) (authB m) ∧ Below w.heap.size w w' ∧ (authB m = [] → D = none ∧ k = 0 ∧ c = 0) ∧ (authB m ≠ [] → ∃ g, D = some ⟨g, 0, none⟩) := by
  have lit : ∀ (l : List UInt8) (W : World) (cs : List Value), cs = l.map cellOf → l.length ≤ 100 → Own (W.alloc (.cells cs.toArray 5)) W.heap.size (.slice (some ⟨W.heap.size, 0, none⟩) l.length l.length) l := by
    intro l W cs e hl
    subst e
    exact own_of_blk (blk_new W 5 (l.map cellOf)) (Nat.le_refl _) (by omega)
  have LI := Lib.hid lit
  clear lit
  by_cases h1 : m = 1
  · subst h1
    go_enter Try.func48, Try.ntmps48
    go_wp2
    go_ret
    exact ⟨_, _, _, rfl, LI.out [0xc0, 0x23] _ _ rfl (by decide), (Below.refl _ _).alloc (Nat.le_refl _) _, (fun h => by cases h), (fun _ => ⟨_, rfl⟩)⟩
  by_cases h2 : m = 2
  · subst h2
    go_enter Try.func48, Try.ntmps48
    go_wp2
    go_ret
    exact ⟨_, _, _, rfl, LI.out [0xc2, 0x23, 5] _ _ rfl (by decide), (Below.refl _ _).alloc (Nat.le_refl _) _, (fun h => by cases h), (fun _ => ⟨_, rfl⟩)⟩
  by_cases h3 : m = 3
  · subst h3
    go_enter Try.func48, Try.ntmps48
    go_wp2
    go_ret
    exact ⟨_, _, _, rfl, LI.out [0xc2, 0x27] _ _ rfl (by decide), (Below.refl _ _).alloc (Nat.le_refl _) _, (fun h => by cases h), (fun _ => ⟨_, rfl⟩)⟩
  · have e1 : (m == 1) = false := by simpa using h1
    have e2 : (m == 2) = false := by simpa using h2
    have e3 : (m == 3) = false := by simpa using h3
    have e0 : authB m = [] := by unfold authB; rw [if_neg h1, if_neg h2, if_neg h3]
    rw [e0]
    clear h1 h2 h3 e0
    go_enter Try.func48, Try.ntmps48
    go_wp2
    go_ret
    exact ⟨none, 0, 0, rfl, Own.nil _ _, Below.refl _ _, fun _ => ⟨rfl, rfl, rfl⟩, fun h => absurd rfl h⟩
theorem rmethod_any (A : Option Addr) (n c B : Nat) (l : List UInt8) (w : World) (hr : Rd w B A n l) (hB : B ≤ w.heap.size) :
    Calls Try.prog 50 #[.slice A n c] w fun e w' => e = .returned (.int .i64 (mth l)) ∧ Below w.heap.size w w' := by
  have HR := Lib.hid hr
  clear hr
  obtain ⟨s, hs⟩ : ∃ s, strOf l = s := ⟨_, rfl⟩
  have HS := Lib.hid hs
  clear hs
  go_enter Try.func50, Try.ntmps50
  go_wp2
  go_loopw [3] (fun i wr => ∃ (W : World) (k : Nat), W = wr ∧ 1 ≤ k ∧ k ≤ 4 ∧ i = .int .i64 k ∧ Hid (Below w.heap.size w W ∧ ∀ j : Nat, 1 ≤ j → j < k → l ≠ authB j)) (fun i _ => 4 - (intOf i).toNat)
  case atStart => exact ⟨_, 1, rfl, by omega, by omega, rfl, Below.refl _ _, fun j h1 h2 => by omega⟩
  case round =>
    obtain ⟨wr, k, rfl, hk1, hk4, rfl, hJ⟩ := hrel
    obtain ⟨hBw, hno⟩ := hJ.out
    by_cases hlt : k ≤ 3
    · have s1 := hBw.size
      have hBd : Below w.heap.size w wr.drew := below_drewN hBw 1
      obtain ⟨t, ht⟩ : ∃ t, strOf (authB k) = t := ⟨_, rfl⟩
      have hst : (t.toList == s.toList) = decide (l = authB k) := by
        rw [← ht, ← HS.out, strOf_beq]
        by_cases h : l = authB k
        · simp [h]
        · have h' : ¬ authB k = l := fun e => h e.symm
          simp [h, h']
      have c0 : (convert 52 9 (.slice A n c)).run Try.prog wr.drew = .ok (.string s) wr.drew := by
        rw [← HS.out]
        exact conv_run (HR.out.below (hBd.mono hB)) c
      have AU : Hid (Calls Try.prog 48 #[.int .i64 k] wr.drew fun e w1 => ∃ D m d, e = .returned (.slice D m d) ∧
          (convert 52 9 (.slice A n c)).run Try.prog w1 = .ok (.string s) w1 ∧ (convert 52 9 (.slice D m d)).run Try.prog w1 = .ok (.string t) w1 ∧ Below w.heap.size w w1) := by
        refine (rauth_any k wr.drew).mono ?_
        rintro e w1 ⟨D, m, d, rfl, ho, hb, -⟩
        have B1 := hBd.trans (hb.mono s1)
        refine ⟨D, m, d, rfl, ?_, ?_, B1⟩
        · rw [← HS.out]; exact conv_run (HR.out.below (B1.mono hB)) c
        · rw [← ht]; exact conv_run ho.rdAll d
      by_cases he : l = authB k
      · rw [decide_eq_true he] at hst
        have HM := Lib.hid (mth_at l k hk1 hlt hno he)
        clear hBw hno hJ he hBd ht
        go_wp2
        go_region_law (go_simp; go_at_call 48; (with_reducible refine AU.out.mono ?_); rintro e w1 ⟨D, m, d, rfl, u1, u2, hb⟩; have HB := Lib.hid hb; clear hb)
        all_goals
          go_wp2
          go_ret
          exact ⟨by rw [HM.out]; rfl, HB.out⟩
      · rw [decide_eq_false he] at hst
        have HN := Lib.hid (show ∀ j : Nat, 1 ≤ j → j < k + 1 → l ≠ authB j from fun j h1 h2 => by
          rcases Nat.lt_succ_iff_lt_or_eq.1 h2 with h | h
          · exact hno j h1 h
          · rw [h]; exact he)
        clear hBw hno hJ he hBd ht
        go_wp2
        go_region_law (go_simp; go_at_call 48; (with_reducible refine AU.out.mono ?_); rintro e w1 ⟨D, m, d, rfl, u1, u2, hb⟩; have HB := Lib.hid hb; clear hb)
        all_goals
          go_wp2
          go_roundw
          case rel => exact ⟨_, k + 1, rfl, by omega, by omega, by go_num, HB.out, HN.out⟩
          case measure => simp [intOf]; omega
    · have : k = 4 := by omega
      subst this
      have HM := Lib.hid (mth_no l hno)
      have HB := Lib.hid hBw
      clear hBw hno hJ
      go_wp2
      go_ret
      exact ⟨by rw [HM.out]; rfl, HB.out⟩
end Go.Proofs.Ytonbdcajepmgbaa
