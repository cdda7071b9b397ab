/-
  tetherref04.Unhex: digits back as bytes.
-/
import Derived.Test.YtpdmopfnllfomaaDoorMdDec
import Derived.Deep.RegionWith
import Derived.Deep.RegionHeldLaw
import Derived.Deep.RegionHeld3
import Derived.StillTailTactics
namespace Go.Proofs.YtpdmopfnllfomaaDoor
open Go.RowKit
set_option maxRecDepth 100000
set_option maxHeartbeats 4000000
set_option linter.unusedSimpArgs false
set_option linter.unusedVariables false

theorem isDig_cases {c : UInt8} (h : isDig c = true) : (48 ≤ (c.toNat : Int) ∧ (c.toNat : Int) ≤ 57 ∧ digVal c = c.toNat - 48) ∨ (97 ≤ (c.toNat : Int) ∧ (c.toNat : Int) ≤ 102 ∧ digVal c = c.toNat - 87) ∨ (65 ≤ (c.toNat : Int) ∧ (c.toNat : Int) ≤ 70 ∧ digVal c = c.toNat - 55) := by
  unfold isDig at h
  unfold digVal
  simp only [Bool.or_eq_true, Bool.and_eq_true, decide_eq_true_eq] at h
  rcases h with (⟨h1, h2⟩ | ⟨h1, h2⟩) | ⟨h1, h2⟩
  · exact .inl ⟨by omega, by omega, by rw [if_pos ⟨h1, h2⟩]⟩
  · exact .inr (.inl ⟨by omega, by omega, by rw [if_neg (by omega), if_pos ⟨h1, h2⟩]⟩)
  · exact .inr (.inr ⟨by omega, by omega, by rw [if_neg (by omega), if_neg (by omega), if_pos ⟨h1, h2⟩]⟩)
theorem isDig_not {c : UInt8} (h : isDig c = false) : ((c.toNat : Int) < 48 ∨ (57 < (c.toNat : Int) ∧ (c.toNat : Int) < 65) ∨ (70 < (c.toNat : Int) ∧ (c.toNat : Int) < 97) ∨ 102 < (c.toNat : Int)) := by
  unfold isDig at h
  simp only [Bool.or_eq_false_iff, Bool.and_eq_false_iff, decide_eq_false_iff_not] at h
  omega
theorem u8_in (x : Int) (h0 : 0 ≤ x) (h1 : x ≤ 255) : IntKind.u8.wrap x = x := by rw [IntKind.wrap_u8']; omega
theorem rdigit_yes (c : UInt8) (h : isDig c = true) (w : World) :
    Calls Tryd.prog 40 #[.int .u8 (c.toNat : Int)] w fun e w' => e = .returned (.int .i64 (digVal c : Nat)) ∧ w = w' := by
  have hc := isDig_cases h
  clear h
  obtain ⟨z, hz⟩ : ∃ z : Int, z = (c.toNat : Int) := ⟨_, rfl⟩
  obtain ⟨d, hd⟩ : ∃ d : Int, d = ((digVal c : Nat) : Int) := ⟨_, rfl⟩
  rw [← hd, ← hz]
  have hc2 : (48 ≤ z ∧ z ≤ 57 ∧ d = z - 48) ∨ (97 ≤ z ∧ z ≤ 102 ∧ d = z - 97 + 10) ∨ (65 ≤ z ∧ z ≤ 70 ∧ d = z - 65 + 10) := by omega
  clear hz hd hc
  rcases hc2 with ⟨h1, h2, hd⟩ | ⟨h1, h2, hd⟩ | ⟨h1, h2, hd⟩
  all_goals
    have D := Lib.hid hd
    clear hd
    go_enter Tryd.func40, Tryd.ntmps40
    go_wp2
    go_ret
    exact ⟨by rw [D.out]; first | rfl | (congr 2; omega), rfl⟩
theorem rdigit_no (c : UInt8) (h : isDig c = false) (w : World) :
    Calls Tryd.prog 40 #[.int .u8 (c.toNat : Int)] w fun e w' => e = .returned (.int .i64 (-1)) ∧ w = w' := by
  have hc := isDig_not h
  clear h
  generalize (c.toNat : Int) = z at *
  rcases hc with h1 | ⟨h1, h2⟩ | ⟨h1, h2⟩ | h1
  all_goals
    go_enter Tryd.func40, Tryd.ntmps40
    go_wp2
    go_ret
    exact ⟨rfl, rfl⟩
theorem runhex_any (s : ByteArray) (l : List UInt8) (w : World) (hl : l = s.data.toList) (hn : s.size ≤ 4194304) :
    Calls Tryd.prog 15 #[.string s] w fun e w' => Below w.heap.size w w' ∧
      ((e = .returned (.tuple #[.slice none 0 0, .int .i64 3]) ∧ ¬ (l.length % 2 = 0 ∧ l.all isDig = true)) ∨ ∃ v, e = .returned (.tuple #[v, .int .i64 0]) ∧ Own w' w.heap.size v (dec l) ∧ (l.length % 2 = 0 ∧ l.all isDig = true)) := by
  have HL : Hid (l.length = s.size) := by show _ = _; rw [hl]; simp
  have HA : Hid (∀ (k : Nat) (h : k < s.size), s[k]'h = l.getD k 0) := by show ∀ (k : Nat) (h : k < s.size), s[k]'h = l.getD k 0; intro k h; rw [hl]; exact at_list s k h
  clear hl
  by_cases hodd : s.size % 2 = 0
  · obtain ⟨m, hm⟩ : ∃ m : Nat, s.size = 2 * m := ⟨s.size / 2, by omega⟩
    have hmod : ((s.size : Nat) : Int) % 2 = 0 := by omega
    have hquo : ((s.size : Nat) : Int) / 2 = (m : Int) := by omega
    go_enter Tryd.func15, Tryd.ntmps15
    go_wp2
    go_loopw [4, 5] (fun v i wr => ∃ k : Nat, i = .int .i64 (2 * (k : Int)) ∧ k ≤ m ∧ (l.take (2 * k)).all isDig = true ∧ Own wr w.heap.size v (dec (l.take (2 * k))) ∧ Below w.heap.size w wr) (fun _ i _ => 2 * m - (intOf i).toNat)
    case atStart => exact ⟨0, rfl, by omega, rfl, Own.nil _ _, Below.refl _ _⟩
    case round =>
      rename_i wr
      obtain ⟨k, rfl, hk, ha, ho, hB⟩ := hrel
      by_cases hkn : k < m
      · have i1 : ∀ h, s[2 * k]'h = l.getD (2 * k) 0 := fun h => HA.out _ h
        have i2 : ∀ h, s[2 * k + 1]'h = l.getD (2 * k + 1) 0 := fun h => HA.out _ h
        have hlt : 2 * (k : Int) < ((s.size : Nat) : Int) := by omega
        have hlt2 : 2 * (k : Int) + 1 < ((s.size : Nat) : Int) := by omega
        have tn1 : (2 * (k : Int)).toNat = 2 * k := by omega
        have tn2 : (2 * (k : Int) + 1).toNat = 2 * k + 1 := by omega
        have hk0 : (0 : Int) ≤ 2 * (k : Int) := by omega
        have hk1 : (0 : Int) ≤ 2 * (k : Int) + 1 := by omega
        have iwr : IntKind.i64.wrap (2 * (k : Int) + 1) = 2 * (k : Int) + 1 := by simp [IntKind.wrap, IntKind.bits, IntKind.signed]; omega
        have i3 : ∀ h, s[(2 * (k : Int)).toNat]'h = l.getD (2 * k) 0 := fun h => by
          have := HA.out _ (show 2 * k < s.size by omega)
          simpa only [tn1] using this
        have i4 : ∀ h, s[(2 * (k : Int) + 1).toNat]'h = l.getD (2 * k + 1) 0 := fun h => by
          have := HA.out _ (show 2 * k + 1 < s.size by omega)
          simpa only [tn2] using this
        have OO := Lib.hid ho
        have BB := Lib.hid hB
        have AA := Lib.hid ha
        clear ho hB ha
        by_cases d1 : isDig (l.getD (2 * k) 0) = true
        · by_cases d2 : isDig (l.getD (2 * k + 1) 0) = true
          · have C1 := Lib.hid (rdigit_yes _ d1)
            have C2 := Lib.hid (rdigit_yes _ d2)
            have L1 := Lib.hid (digVal_lt d1)
            have L2 := Lib.hid (digVal_lt d2)
            have AN := Lib.hid (all_next (by rw [HL.out]; omega) (all_next (by rw [HL.out]; omega) AA.out d1) d2)
            have DP := Lib.hid (dec_pair k l (by rw [HL.out]; omega))
            generalize l.getD (2 * k) 0 = c1 at *
            generalize l.getD (2 * k + 1) 0 = c2 at *
            generalize digVal c1 = D1 at *
            generalize digVal c2 = D2 at *
            clear d1 d2
            obtain ⟨v2, w2, r2, o2, b2⟩ := dec_grow k m (UInt8.ofNat (16 * D1 + D2)) hkn (by omega) (by rw [HL.out]; exact hm) wr.drew (below_drewN BB.out 1) OO.out (16 * (D1 : Int) + (D2 : Int)) (of_pair D1 D2 L1.out L2.out)
            rw [← DP.out] at o2
            have R2 := Lib.hid r2
            have O2 := Lib.hid o2
            have B2 := Lib.hid b2
            have l1 := L1.out
            have l2 := L2.out
            have x1 : IntKind.i64.wrap (16 * (D1 : Int)) = 16 * (D1 : Int) := by simp [IntKind.wrap, IntKind.bits, IntKind.signed]; omega
            have x2 : IntKind.i64.wrap (16 * (D1 : Int) + (D2 : Int)) = 16 * (D1 : Int) + (D2 : Int) := by simp [IntKind.wrap, IntKind.bits, IntKind.signed]; omega
            have x3 : IntKind.u8.wrap (16 * (D1 : Int) + (D2 : Int)) = 16 * (D1 : Int) + (D2 : Int) := by rw [IntKind.wrap_u8']; omega
            clear r2 o2 b2
            go_wp2_with (first
              | (go_at_call_of 40 (Value.int .u8 (c1.toNat : Int)); refine (C1.out _).mono ?_; rintro e w1 ⟨rfl, rfl⟩)
              | (go_at_call_of 40 (Value.int .u8 (c2.toNat : Int)); refine (C2.out _).mono ?_; rintro e w1 ⟨rfl, rfl⟩))
            try clear hmod
            try clear hquo
            try clear hodd
            try clear HL
            try clear HA
            try clear OO
            try clear AA
            try clear BB
            try clear DP
            try clear L1
            try clear L2
            try clear hB
            try clear ho
            try clear ha
            go_region_law (first
              | (go_simp; go_at_call_of 40 (Value.int .u8 (c1.toNat : Int)); refine (C1.out _).mono ?_; rintro e w1 ⟨rfl, rfl⟩)
              | (go_simp; go_at_call_of 40 (Value.int .u8 (c2.toNat : Int)); refine (C2.out _).mono ?_; rintro e w1 ⟨rfl, rfl⟩)
              | (refine step_app2 rfl (.tmp 29) (.tmp 42) rfl _ _ rfl rfl _ _ R2.out ?_))
            all_goals go_wp2
            all_goals go_roundw
            all_goals first
              | exact ⟨k + 1, by go_num, by omega, AN.out, O2.out, B2.out⟩
              | (simp [intOf]; omega)
          · have C1 := Lib.hid (rdigit_yes _ d1)
            have C2 := Lib.hid (rdigit_no _ (not_dig d2))
            have NA := Lib.hid (not_all (l := l) (j := 2 * k + 1) (by rw [HL.out]; omega) (not_dig d2))
            generalize l.getD (2 * k) 0 = c1 at *
            generalize l.getD (2 * k + 1) 0 = c2 at *
            generalize digVal c1 = D1 at *
            clear d1 d2
            go_wp2_with fail
            refine (C1.out _).mono ?_
            rintro e w1 ⟨rfl, rfl⟩
            go_wp2_with fail
            refine (C2.out _).mono ?_
            rintro e w1 ⟨rfl, rfl⟩
            go_wp2
            go_ret2
            exact ⟨BB.out, .inl ⟨rfl, fun h => by have := h.2; rw [NA.out] at this; cases this⟩⟩
        · have C1 := Lib.hid (rdigit_no _ (not_dig d1))
          have NA := Lib.hid (not_all (l := l) (j := 2 * k) (by rw [HL.out]; omega) (not_dig d1))
          generalize l.getD (2 * k) 0 = c1 at *
          generalize l.getD (2 * k + 1) 0 = c2 at *
          clear d1
          go_wp2_with fail
          refine (C1.out _).mono ?_
          rintro e w1 ⟨rfl, rfl⟩
          go_wp2
          go_ret2
          exact ⟨BB.out, .inl ⟨rfl, fun h => by have := h.2; rw [NA.out] at this; cases this⟩⟩
      · have e : k = m := by omega
        subst e
        rw [List.take_of_length_le (by rw [HL.out]; omega)] at ho ha
        have OO := Lib.hid ho
        have BB := Lib.hid hB
        have AA := Lib.hid ha
        have EV := Lib.hid (show l.length % 2 = 0 by rw [HL.out]; exact hodd)
        clear ho hB ha
        go_wp2
        go_ret2
        exact ⟨BB.out, .inr ⟨_, rfl, OO.out, EV.out, AA.out⟩⟩
  · have hmod : ((s.size : Nat) : Int) % 2 = 1 := by omega
    have EV := Lib.hid (show ¬ l.length % 2 = 0 by rw [HL.out]; exact hodd)
    go_enter Tryd.func15, Tryd.ntmps15
    go_wp2
    go_ret2
    exact ⟨Below.refl _ _, .inl ⟨rfl, fun h => EV.out h.1⟩⟩
end Go.Proofs.YtpdmopfnllfomaaDoor
