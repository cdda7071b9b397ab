/-
  octet.Unhex and tetherref01.Unhex, whole.
-/
import Derived.Test.YtdnheiefbecaeaaDoorUnhex
namespace Go.Proofs.YtdnheiefbecaeaaDoor
open Go.RowKit
set_option maxRecDepth 100000
set_option maxHeartbeats 1000000
set_option linter.unusedSimpArgs false
set_option linter.unusedVariables false

theorem at_list (s : ByteArray) (k : Nat) (h : k < s.size) : s[k]'h = s.data.toList.getD k 0 := by
  have h2 : k < s.data.size := h
  rw [List.getD_eq_getElem?_getD, List.getElem?_eq_getElem (by simpa using h2)]
  rfl
theorem rd_one_u (w : World) (c : UInt8) (x : Int) (hx : x = (c.toNat : Int)) : Rd (w.alloc (.cells #[.int .u8 x] 5)) (w.heap.size + 1) (some ⟨w.heap.size, 0, none⟩) 1 [c] := by
  subst hx
  refine ⟨rfl, fun _ => ⟨w.heap.size, 0, rfl, by omega, fun j hj => ?_⟩⟩
  obtain rfl : j = 0 := by omega
  have h := (blk_new w 5 [.int .u8 (c.toNat : Int)]).cell 0
  rw [Nat.add_zero]
  exact h

theorem not_dig {c : UInt8} (h : ¬ isDig c = true) : isDig c = false := by rwa [Bool.not_eq_true] at h
theorem or_pair : ∀ a : Nat, a < 16 → ∀ b : Nat, b < 16 → bits .or .u8 ((a : Int) * 16) (b : Int) = ((UInt8.ofNat (16 * a + b)).toNat : Int) := by
  have key : ∀ a b : Fin 16, bits .or .u8 ((a.val : Int) * 16) (b.val : Int) = ((UInt8.ofNat (16 * a.val + b.val)).toNat : Int) := by decide
  intro a ha b hb
  exact key ⟨a, ha⟩ ⟨b, hb⟩
theorem of_pair (a b : Nat) (ha : a < 16) (hb : b < 16) : (16 * (a : Int) + (b : Int)) = ((UInt8.ofNat (16 * a + b)).toNat : Int) := by
  rw [UInt8.toNat_ofNat', Nat.mod_eq_of_lt (by omega)]
  omega
/-- a byte more -/
theorem dec_grow {w : World} {v : Value} {l : List UInt8} (k m : Nat) (c : UInt8) (hk : k < m) (hn : m ≤ 2097152) (hl : l.length = 2 * m) (W : World) (hW : Below w.heap.size w W) (ho : Own W w.heap.size v (dec (l.take (2 * k)))) (x : Int)
    (hx : x = (c.toNat : Int)) :
    ∃ v2 w2, (Builtin.append_ #[22, 22] 22 #[v, .slice (some ⟨W.heap.size, 0, none⟩) 1 1]).run Tryd.prog (W.alloc (.cells #[.int .u8 x] 5)) = .ok v2 w2 ∧ Own w2 w.heap.size v2 (dec (l.take (2 * k)) ++ [c]) ∧ Below w.heap.size w w2 := by
  have hsz := hW.size
  have hlen : (dec (l.take (2 * k))).length ≤ 2097152 := by
    rw [dec_len k _ (by rw [List.length_take]; omega)]
    omega
  obtain ⟨v2, w2, r2, o2, g2, b2⟩ := append_run (ho.alloc (.cells #[.int .u8 x] 5)) 1 (rd_one_u W c x hx) (by simp) (by omega) (by simp; omega)
  exact ⟨v2, w2, r2, o2, (hW.alloc hsz _).grown g2 (by simp; omega) (fun j hj => (ho.block j hj).1)⟩


theorem unhex_any (s : ByteArray) (l : List UInt8) (w : World) (hl : l = s.data.toList) (hn : s.size ≤ 4194304) :
    Calls Tryd.prog 15 #[.string s] w fun e w' => Below w.heap.size w w' ∧
      ((e = .returned (.tuple #[.slice none 0 0, .int .i64 3]) ∧ ¬ (l.length % 2 = 0 ∧ l.all isDig = true)) ∨ ∃ v, e = .returned (.tuple #[v, .int .i64 0]) ∧ Own w' w.heap.size v (dec l) ∧ (l.length % 2 = 0 ∧ l.all isDig = true)) := by
  have HL : Hid (l.length = s.size) := by show _ = _; rw [hl]; simp
  have HA : Hid (∀ (k : Nat) (h : k < s.size), s[k]'h = l.getD k 0) := by show ∀ (k : Nat) (h : k < s.size), s[k]'h = l.getD k 0; intro k h; rw [hl]; exact at_list s k h
  clear hl
  by_cases hodd : s.size % 2 = 0
  · obtain ⟨m, hm⟩ : ∃ m : Nat, s.size = 2 * m := ⟨s.size / 2, by omega⟩
    have hmod : ((s.size : Nat) : Int) % 2 = 0 := by omega
    have hquo : ((s.size : Nat) : Int) / 2 = (m : Int) := by omega
    have hmk := fun w => mk0_run m (m : Int) rfl (by omega) w
    have O0 := Lib.hid (own_room w w.heap.size m (Nat.le_refl _) (by omega))
    go_enter Tryd.func15, Tryd.ntmps15
    go_wp2
    go_loopw [4, 5] (fun v i wr => ∃ k : Nat, i = .int .i64 (2 * (k : Int)) ∧ k ≤ m ∧ (l.take (2 * k)).all isDig = true ∧ Own wr w.heap.size v (dec (l.take (2 * k))) ∧ Below w.heap.size w wr) (fun _ i _ => 2 * m - (intOf i).toNat)
    case atStart => exact ⟨0, rfl, by omega, rfl, O0.out, (Below.refl _ _).alloc (Nat.le_refl _) _⟩
    case round =>
      rename_i wr
      obtain ⟨k, rfl, hk, ha, ho, hB⟩ := hrel
      by_cases hkn : k < m
      · have i1 : ∀ h, s[2 * k]'h = l.getD (2 * k) 0 := fun h => HA.out _ h
        have i2 : ∀ h, s[2 * k + 1]'h = l.getD (2 * k + 1) 0 := fun h => HA.out _ h
        have hlt : 2 * (k : Int) < ((s.size : Nat) : Int) := by omega
        have hlt2 : 2 * (k : Int) + 1 < ((s.size : Nat) : Int) := by omega
        have OO := Lib.hid ho
        have BB := Lib.hid hB
        have AA := Lib.hid ha
        clear ho hB ha
        by_cases d1 : isDig (l.getD (2 * k) 0) = true
        · by_cases d2 : isDig (l.getD (2 * k + 1) 0) = true
          · have C1 := Lib.hid (digitValue_yes _ d1)
            have C2 := Lib.hid (digitValue_yes _ d2)
            have L1 := Lib.hid (digVal_lt d1)
            have L2 := Lib.hid (digVal_lt d2)
            have AN := Lib.hid (all_next (by rw [HL.out]; omega) (all_next (by rw [HL.out]; omega) AA.out d1) d2)
            have DP := Lib.hid (dec_pair k l (by rw [HL.out]; omega))
            generalize l.getD (2 * k) 0 = c1 at *
            generalize l.getD (2 * k + 1) 0 = c2 at *
            generalize digVal c1 = D1 at *
            generalize digVal c2 = D2 at *
            clear d1 d2
            obtain ⟨v2, w2, r2, o2, b2⟩ := dec_grow k m (UInt8.ofNat (16 * D1 + D2)) hkn (by omega) (by rw [HL.out]; exact hm) wr BB.out OO.out (bits .or .u8 ((D1 : Int) * 16) (D2 : Int)) (or_pair D1 L1.out D2 L2.out)
            rw [← DP.out] at o2
            have R2 := Lib.hid r2
            have O2 := Lib.hid o2
            have B2 := Lib.hid b2
            have l1 := L1.out
            have l2 := L2.out
            clear r2 o2 b2
            go_wp2_with fail
            refine (C1.out _).mono ?_
            rintro e w1 ⟨rfl, rfl⟩
            go_wp2_with fail
            refine (C2.out _).mono ?_
            rintro e w1 ⟨rfl, rfl⟩
            go_wp2_with (at_builtin; refine wpList_app rfl (.tmp 45) (.tmp 50) rfl _ _ rfl rfl _ _ R2.out ?_)
            go_roundw
            case rel => exact ⟨k + 1, by go_num, by omega, AN.out, O2.out, B2.out⟩
            case measure => simp [intOf]; omega
          · have C1 := Lib.hid (digitValue_yes _ d1)
            have C2 := Lib.hid (digitValue_no _ (not_dig d2))
            have NA := Lib.hid (not_all (l := l) (j := 2 * k + 1) (by rw [HL.out]; omega) (not_dig d2))
            generalize l.getD (2 * k) 0 = c1 at *
            generalize l.getD (2 * k + 1) 0 = c2 at *
            generalize digVal c1 = D1 at *
            clear d1 d2
            go_wp2_with fail
            refine (C1.out _).mono ?_
            rintro e w1 ⟨rfl, rfl⟩
            go_wp2_with fail
            refine (C2.out _).mono ?_
            rintro e w1 ⟨rfl, rfl⟩
            go_wp2
            go_ret2
            exact ⟨BB.out, .inl ⟨rfl, fun h => by have := h.2; rw [NA.out] at this; cases this⟩⟩
        · have C1 := Lib.hid (digitValue_no _ (not_dig d1))
          have NA := Lib.hid (not_all (l := l) (j := 2 * k) (by rw [HL.out]; omega) (not_dig d1))
          by_cases d2 : isDig (l.getD (2 * k + 1) 0) = true
          · have C2 := Lib.hid (digitValue_yes _ d2)
            generalize l.getD (2 * k) 0 = c1 at *
            generalize l.getD (2 * k + 1) 0 = c2 at *
            generalize digVal c2 = D2 at *
            clear d1 d2
            go_wp2_with fail
            refine (C1.out _).mono ?_
            rintro e w1 ⟨rfl, rfl⟩
            go_wp2_with fail
            refine (C2.out _).mono ?_
            rintro e w1 ⟨rfl, rfl⟩
            go_wp2
            go_ret2
            exact ⟨BB.out, .inl ⟨rfl, fun h => by have := h.2; rw [NA.out] at this; cases this⟩⟩
          · have C2 := Lib.hid (digitValue_no _ (not_dig d2))
            generalize l.getD (2 * k) 0 = c1 at *
            generalize l.getD (2 * k + 1) 0 = c2 at *
            clear d1 d2
            go_wp2_with fail
            refine (C1.out _).mono ?_
            rintro e w1 ⟨rfl, rfl⟩
            go_wp2_with fail
            refine (C2.out _).mono ?_
            rintro e w1 ⟨rfl, rfl⟩
            go_wp2
            go_ret2
            exact ⟨BB.out, .inl ⟨rfl, fun h => by have := h.2; rw [NA.out] at this; cases this⟩⟩
      · have e : k = m := by omega
        subst e
        rw [List.take_of_length_le (by rw [HL.out]; omega)] at ho ha
        have OO := Lib.hid ho
        have BB := Lib.hid hB
        have AA := Lib.hid ha
        have EV := Lib.hid (show l.length % 2 = 0 by rw [HL.out]; exact hodd)
        clear ho hB ha
        go_wp2
        go_ret2
        exact ⟨BB.out, .inr ⟨_, rfl, OO.out, EV.out, AA.out⟩⟩
  · have hmod : ((s.size : Nat) : Int) % 2 = 1 := by omega
    have EV := Lib.hid (show ¬ l.length % 2 = 0 by rw [HL.out]; exact hodd)
    go_enter Tryd.func15, Tryd.ntmps15
    go_wp2
    go_ret2
    exact ⟨Below.refl _ _, .inl ⟨rfl, fun h => EV.out h.1⟩⟩

theorem runhex_any (s : ByteArray) (l : List UInt8) (w : World) (hl : l = s.data.toList) (hn : s.size ≤ 4194304) :
    Calls Tryd.prog 16 #[.string s] w fun e w' => Below w.heap.size w w' ∧
      ((e = .returned (.tuple #[.slice none 0 0, .int .i64 3]) ∧ ¬ (l.length % 2 = 0 ∧ l.all isDig = true)) ∨ ∃ v, e = .returned (.tuple #[v, .int .i64 0]) ∧ Own w' w.heap.size v (dec l) ∧ (l.length % 2 = 0 ∧ l.all isDig = true)) := by
  have HL : Hid (l.length = s.size) := by show _ = _; rw [hl]; simp
  have HA : Hid (∀ (k : Nat) (h : k < s.size), s[k]'h = l.getD k 0) := by show ∀ (k : Nat) (h : k < s.size), s[k]'h = l.getD k 0; intro k h; rw [hl]; exact at_list s k h
  clear hl
  by_cases hodd : s.size % 2 = 0
  · obtain ⟨m, hm⟩ : ∃ m : Nat, s.size = 2 * m := ⟨s.size / 2, by omega⟩
    have hmod : ((s.size : Nat) : Int) % 2 = 0 := by omega
    have hquo : ((s.size : Nat) : Int) / 2 = (m : Int) := by omega
    go_enter Tryd.func16, Tryd.ntmps16
    go_wp2
    go_loopw [4, 5] (fun v i wr => ∃ k : Nat, i = .int .i64 (2 * (k : Int)) ∧ k ≤ m ∧ (l.take (2 * k)).all isDig = true ∧ Own wr w.heap.size v (dec (l.take (2 * k))) ∧ Below w.heap.size w wr) (fun _ i _ => 2 * m - (intOf i).toNat)
    case atStart => exact ⟨0, rfl, by omega, rfl, Own.nil _ _, Below.refl _ _⟩
    case round =>
      rename_i wr
      obtain ⟨k, rfl, hk, ha, ho, hB⟩ := hrel
      by_cases hkn : k < m
      · have i1 : ∀ h, s[2 * k]'h = l.getD (2 * k) 0 := fun h => HA.out _ h
        have i2 : ∀ h, s[2 * k + 1]'h = l.getD (2 * k + 1) 0 := fun h => HA.out _ h
        have hlt : 2 * (k : Int) < ((s.size : Nat) : Int) := by omega
        have hlt2 : 2 * (k : Int) + 1 < ((s.size : Nat) : Int) := by omega
        have OO := Lib.hid ho
        have BB := Lib.hid hB
        have AA := Lib.hid ha
        clear ho hB ha
        by_cases d1 : isDig (l.getD (2 * k) 0) = true
        · by_cases d2 : isDig (l.getD (2 * k + 1) 0) = true
          · have C1 := Lib.hid (rdigit_yes _ d1)
            have C2 := Lib.hid (rdigit_yes _ d2)
            have L1 := Lib.hid (digVal_lt d1)
            have L2 := Lib.hid (digVal_lt d2)
            have AN := Lib.hid (all_next (by rw [HL.out]; omega) (all_next (by rw [HL.out]; omega) AA.out d1) d2)
            have DP := Lib.hid (dec_pair k l (by rw [HL.out]; omega))
            generalize l.getD (2 * k) 0 = c1 at *
            generalize l.getD (2 * k + 1) 0 = c2 at *
            generalize digVal c1 = D1 at *
            generalize digVal c2 = D2 at *
            clear d1 d2
            obtain ⟨v2, w2, r2, o2, b2⟩ := dec_grow k m (UInt8.ofNat (16 * D1 + D2)) hkn (by omega) (by rw [HL.out]; exact hm) wr BB.out OO.out (16 * (D1 : Int) + (D2 : Int)) (of_pair D1 D2 L1.out L2.out)
            rw [← DP.out] at o2
            have R2 := Lib.hid r2
            have O2 := Lib.hid o2
            have B2 := Lib.hid b2
            have l1 := L1.out
            have l2 := L2.out
            clear r2 o2 b2
            go_wp2_with fail
            refine (C1.out _).mono ?_
            rintro e w1 ⟨rfl, rfl⟩
            go_wp2_with fail
            refine (C2.out _).mono ?_
            rintro e w1 ⟨rfl, rfl⟩
            go_wp2_with (at_builtin; refine wpList_app rfl (.tmp 33) (.tmp 39) rfl _ _ rfl rfl _ _ R2.out ?_)
            go_roundw
            case rel => exact ⟨k + 1, by go_num, by omega, AN.out, O2.out, B2.out⟩
            case measure => simp [intOf]; omega
          · have C1 := Lib.hid (rdigit_yes _ d1)
            have C2 := Lib.hid (rdigit_no _ (not_dig d2))
            have NA := Lib.hid (not_all (l := l) (j := 2 * k + 1) (by rw [HL.out]; omega) (not_dig d2))
            generalize l.getD (2 * k) 0 = c1 at *
            generalize l.getD (2 * k + 1) 0 = c2 at *
            generalize digVal c1 = D1 at *
            clear d1 d2
            go_wp2_with fail
            refine (C1.out _).mono ?_
            rintro e w1 ⟨rfl, rfl⟩
            go_wp2_with fail
            refine (C2.out _).mono ?_
            rintro e w1 ⟨rfl, rfl⟩
            go_wp2
            go_ret2
            exact ⟨BB.out, .inl ⟨rfl, fun h => by have := h.2; rw [NA.out] at this; cases this⟩⟩
        · have C1 := Lib.hid (rdigit_no _ (not_dig d1))
          have NA := Lib.hid (not_all (l := l) (j := 2 * k) (by rw [HL.out]; omega) (not_dig d1))
          by_cases d2 : isDig (l.getD (2 * k + 1) 0) = true
          · have C2 := Lib.hid (rdigit_yes _ d2)
            generalize l.getD (2 * k) 0 = c1 at *
            generalize l.getD (2 * k + 1) 0 = c2 at *
            generalize digVal c2 = D2 at *
            clear d1 d2
            go_wp2_with fail
            refine (C1.out _).mono ?_
            rintro e w1 ⟨rfl, rfl⟩
            go_wp2_with fail
            refine (C2.out _).mono ?_
            rintro e w1 ⟨rfl, rfl⟩
            go_wp2
            go_ret2
            exact ⟨BB.out, .inl ⟨rfl, fun h => by have := h.2; rw [NA.out] at this; cases this⟩⟩
          · have C2 := Lib.hid (rdigit_no _ (not_dig d2))
            generalize l.getD (2 * k) 0 = c1 at *
            generalize l.getD (2 * k + 1) 0 = c2 at *
            clear d1 d2
            go_wp2_with fail
            refine (C1.out _).mono ?_
            rintro e w1 ⟨rfl, rfl⟩
            go_wp2_with fail
            refine (C2.out _).mono ?_
            rintro e w1 ⟨rfl, rfl⟩
            go_wp2
            go_ret2
            exact ⟨BB.out, .inl ⟨rfl, fun h => by have := h.2; rw [NA.out] at this; cases this⟩⟩
      · have e : k = m := by omega
        subst e
        rw [List.take_of_length_le (by rw [HL.out]; omega)] at ho ha
        have OO := Lib.hid ho
        have BB := Lib.hid hB
        have AA := Lib.hid ha
        have EV := Lib.hid (show l.length % 2 = 0 by rw [HL.out]; exact hodd)
        clear ho hB ha
        go_wp2
        go_ret2
        exact ⟨BB.out, .inr ⟨_, rfl, OO.out, EV.out, AA.out⟩⟩
  · have hmod : ((s.size : Nat) : Int) % 2 = 1 := by omega
    have EV := Lib.hid (show ¬ l.length % 2 = 0 by rw [HL.out]; exact hodd)
    go_enter Tryd.func16, Tryd.ntmps16
    go_wp2
    go_ret2
    exact ⟨Below.refl _ _, .inl ⟨rfl, fun h => EV.out h.1⟩⟩
end Go.Proofs.YtdnheiefbecaeaaDoor
