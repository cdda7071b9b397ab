/-
  md5.Unhex: digits back as bytes, by the library's ParseUint.
-/
import Derived.Test.YtpdmopfnllfomaaDoorMdParse
import Derived.Test.YtpdmopfnllfomaaDoorMdDec
import Derived.Lib.Explode
import Derived.Lib.RuneCountTail
import Derived.Lib.RabinKarpLaws
namespace Go.Proofs.YtpdmopfnllfomaaDoor
open Go.RowKit
set_option maxRecDepth 100000
set_option maxHeartbeats 1000000
set_option linter.unusedSimpArgs false
set_option linter.unusedVariables false

theorem str_ext {a b : ByteArray} (h : a.data.toList = b.data.toList) : a = b := by
  cases a
  cases b
  congr 1
  exact Array.toList_inj.1 h
theorem ext_list (s : ByteArray) (a b : Nat) : (s.extract a b).data.toList = (s.data.toList.drop a).take (b - a) := by
  rw [Lib.extract_data]
theorem tail_two (s : ByteArray) (d : Nat) (h : d + 2 ≤ s.size) : (s.extract d s.size).extract 2 (s.extract d s.size).size = s.extract (d + 2) s.size := by
  refine str_ext ?_
  rw [ext_list, ext_list, ext_list, Lib.tail_size]
  have hl : s.data.toList.length = s.size := Array.length_toList
  rw [List.take_of_length_le (l := s.data.toList.drop d) (by rw [List.length_drop]; omega), List.drop_drop, List.take_of_length_le (by rw [List.length_drop]; omega), List.take_of_length_le (by rw [List.length_drop]; omega)]
theorem head_two (s : ByteArray) (d : Nat) (h : d + 2 ≤ s.size) : (s.extract d s.size).extract 0 2 = { data := #[s.data.toList.getD d 0, s.data.toList.getD (d + 1) 0] } := by
  refine str_ext ?_
  rw [ext_list, ext_list]
  have hl : s.data.toList.length = s.size := Array.length_toList
  rw [List.drop_zero, List.take_of_length_le (l := s.data.toList.drop d) (by rw [List.length_drop]; omega)]
  refine List.ext_getElem (by simp; omega) fun i h1 h2 => ?_
  simp at h2
  match i, h2 with
  | 0, _ => simp [List.getD_eq_getElem?_getD, List.getElem?_eq_getElem (show d < s.data.toList.length by omega)]
  | 1, _ => simp [List.getD_eq_getElem?_getD, List.getElem?_eq_getElem (show d + 1 < s.data.toList.length by omega)]
theorem not_empty {t : ByteArray} (h : 2 ≤ t.size) : t.toList.isEmpty = false := by
  have e : t.toList = t.data.toList := ByteArray.toList_eq t
  rw [e]
  have : t.data.toList.length = t.size := Array.length_toList
  cases hh : t.data.toList with
  | nil => rw [hh] at this; simp at this; omega
  | cons _ _ => rfl
theorem unhex4_any (s : ByteArray) (l : List UInt8) (w : World) (hl : l = s.data.toList) (hn : s.size ≤ 4194304) (hE : TabE w) :
    Calls Tryd.prog 14 #[.string s] w fun e w' => Below w.heap.size w w' ∧
      ((e = .returned (.tuple #[.slice none 0 0, .int .i64 3]) ∧ ¬ (l.length % 2 = 0 ∧ l.all isDig = true)) ∨ ∃ v, e = .returned (.tuple #[v, .int .i64 0]) ∧ Own w' w.heap.size v (dec l) ∧ (l.length % 2 = 0 ∧ l.all isDig = true)) := by
  have HL : Hid (l.length = s.size) := by show _ = _; rw [hl]; exact Array.length_toList
  have HD := Lib.hid hl
  have HE := Lib.hid hE
  clear hl hE
  by_cases hodd : s.size % 2 = 0
  · obtain ⟨m, hm⟩ : ∃ m : Nat, s.size = 2 * m := ⟨s.size / 2, by omega⟩
    have hmod : ((s.size : Nat) : Int) % 2 = 0 := by omega
    have hquo : ((s.size : Nat) : Int) / 2 = (m : Int) := by omega
    have hmk := fun w => mk0_run m (m : Int) rfl (by omega) w
    have O0 := Lib.hid (own_room w w.heap.size m (Nat.le_refl _) (by omega))
    have HM := Lib.hid hm
    have ST : Hid (s = s.extract (2 * 0) s.size) := (Lib.whole_piece s).symm
    go_enter Tryd.func14, Tryd.ntmps14
    go_wp2
    go_loopw [0, 4] (fun vs v wr => ∃ (k : Nat) (t : ByteArray), vs = .string t ∧ Hid (t = s.extract (2 * k) s.size) ∧ k ≤ m ∧ (l.take (2 * k)).all isDig = true ∧ Own wr w.heap.size v (dec (l.take (2 * k))) ∧ Below w.heap.size w wr)
      (fun vs _ _ => match vs with | .string t => t.size | _ => 0)
    case atStart => exact ⟨0, s, rfl, ST.out, by omega, rfl, O0.out, (Below.refl _ _).alloc (Nat.le_refl _) _⟩
    case round =>
      rename_i wr
      obtain ⟨k, t, rfl, ht, hk, ha, ho, hB⟩ := hrel
      have hts : t.size = s.size - 2 * k := by rw [ht.out]; exact Lib.tail_size s (2 * k)
      by_cases hkn : k < m
      · have hsz2 : (2 : Int) ≤ (t.size : Int) := by have := HM.out; omega
        have c0e : t.extract 0 2 = { data := #[l.getD (2 * k) 0, l.getD (2 * k + 1) 0] } := by rw [ht.out, HD.out]; exact head_two s (2 * k) (by have := HM.out; omega)
        have H2 := Lib.hid c0e
        have OO := Lib.hid ho
        have BB := Lib.hid hB
        have AA := Lib.hid ha
        have HT := Lib.hid ht
        have HTS := Lib.hid hts
        clear ho hB ha c0e
        have hne := not_empty (t := t) (by omega)
        have T2 := Lib.hid (show t.extract 2 t.size = s.extract (2 * (k + 1)) s.size by rw [HT.out]; exact tail_two s (2 * k) (by have := HM.out; omega))
        have PU := Lib.hid (parse16_any (l.getD (2 * k) 0) (l.getD (2 * k + 1) 0) wr (HE.out.kept BB.out))
        rw [← H2.out] at PU
        clear hts ht
        go_wp2_with fail
        refine PU.out.mono ?_
        rintro e w1 ⟨hb1, (⟨d0, d1, rfl⟩ | ⟨hno, T, v, rfl⟩)⟩
        · have hs1 := hb1.size
          have B1 := BB.out.trans (hb1.mono BB.out.size)
          have L1 := digVal_lt d0
          have L2 := digVal_lt d1
          have AN := Lib.hid (all_next (by rw [HL.out]; omega) (all_next (by rw [HL.out]; omega) AA.out d0) d1)
          have DP := Lib.hid (dec_pair k l (by rw [HL.out]; omega))
          obtain ⟨D, hD⟩ : ∃ D, D = 16 * digVal (l.getD (2 * k) 0) + digVal (l.getD (2 * k + 1) 0) := ⟨_, rfl⟩
          have hD8 : D < 256 := by omega
          rw [← hD] at DP ⊢
          have x3 : IntKind.u8.wrap ((D : Nat) : Int) = (D : Int) := by rw [IntKind.wrap_u8']; omega
          obtain ⟨v2, w2, r2, o2, b2⟩ := dec_grow k m (UInt8.ofNat D) hkn (by omega) (by rw [HL.out]; exact hm) w1 B1 (OO.out.later hb1) ((D : Nat) : Int) (by rw [UInt8.toNat_ofNat', Nat.mod_eq_of_lt (by omega)])
          rw [← DP.out] at o2
          have R2 := Lib.hid r2
          have O2 := Lib.hid o2
          have B2 := Lib.hid b2
          clear r2 o2 b2 hb1 d0 d1 L1 L2 hD B1
          go_wp2_with (at_builtin; refine wpList_app rfl (.tmp 27) (.tmp 30) rfl _ _ rfl rfl _ _ R2.out ?_)
          go_roundw
          case rel => exact ⟨k + 1, t.extract 2 t.size, rfl, T2.out, by omega, AN.out, O2.out, B2.out⟩
          case measure =>
            show (t.extract 2 t.size).size < t.size
            rw [Lib.tail_size]
            have := HTS.out
            omega
        · have B1 := Lib.hid (BB.out.trans (hb1.mono BB.out.size))
          have NO : Hid (¬ (l.length % 2 = 0 ∧ l.all isDig = true)) := fun h => by
            refine hno ⟨?_, ?_⟩
            · cases hd : isDig (l.getD (2 * k) 0) with
              | true => rfl
              | false => have := not_all (l := l) (j := 2 * k) (by rw [HL.out]; omega) hd; rw [h.2] at this; cases this
            · cases hd : isDig (l.getD (2 * k + 1) 0) with
              | true => rfl
              | false => have := not_all (l := l) (j := 2 * k + 1) (by rw [HL.out]; omega) hd; rw [h.2] at this; cases this
          clear hb1 hno
          go_wp2
          go_ret2
          exact ⟨B1.out, .inl ⟨rfl, NO.out⟩⟩
      · have hsz0 : t.size = 0 := by have := HM.out; omega
        have ht0 : t = { data := #[] } := str_ext (by
          have h : t.data.toList.length = 0 := by rw [Array.length_toList]; exact hsz0
          rw [List.eq_nil_of_length_eq_zero h])
        have OO := Lib.hid ho
        have BB := Lib.hid hB
        have AA := Lib.hid ha
        clear ho hB ha ht hts
        subst ht0
        have e : k = m := by omega
        subst e
        have OO2 := Lib.hid (show Own wr w.heap.size _ (dec l) by have h := OO.out; rw [List.take_of_length_le (by rw [HL.out]; omega)] at h; exact h)
        have AA2 := Lib.hid (show l.all isDig = true by have h := AA.out; rw [List.take_of_length_le (by rw [HL.out]; omega)] at h; exact h)
        have EV := Lib.hid (show l.length % 2 = 0 by rw [HL.out]; exact hodd)
        clear OO AA
        go_wp2
        go_ret2
        exact ⟨BB.out, .inr ⟨_, rfl, OO2.out, EV.out, AA2.out⟩⟩
  · have hmod : ((s.size : Nat) : Int) % 2 = 1 := by omega
    have EV := Lib.hid (show ¬ l.length % 2 = 0 by rw [HL.out]; exact hodd)
    go_enter Tryd.func14, Tryd.ntmps14
    go_wp2
    go_ret2
    exact ⟨Below.refl _ _, .inl ⟨rfl, fun h => EV.out h.1⟩⟩
end Go.Proofs.YtpdmopfnllfomaaDoor
