/-
  Names: spell.Name, tetherref06.Name.
-/
import Derived.Test.YtjimoegegigoiaaDoorProg
import Derived.Lib.Hide
import Derived.LoopTactic
import Derived.Deep.Light
import Derived.WalkKit
import Derived.BigQuiet
namespace Go.Proofs.YtjimoegegigoiaaDoor
open Go.RowKit
set_option maxRecDepth 100000
set_option maxHeartbeats 2000000
set_option linter.unusedSimpArgs false
set_option linter.unusedVariables false

/-- a byte that a name may have -/
def okc (c : UInt8) : Bool := decide (32 ≤ (c.toNat : Int)) && (decide ((c.toNat : Int) ≤ 126) && (!((c.toNat : Int) == 34) && !((c.toNat : Int) == 92)))
/-- can it be a name? -/
def nameB (s : ByteArray) : Bool := decide (0 < s.size) && (decide (s.size ≤ 64) && s.data.toList.all okc)
theorem byteE (s : ByteArray) (k : Nat) (h : k < s.size) : s.data.toList[k]'(by simpa using h) = s[k] := rfl
theorem takeB (s : ByteArray) (k : Nat) (h : k < s.size) : s.data.toList.take (k + 1) = s.data.toList.take k ++ [s[k]] := by
  rw [List.take_succ_eq_append_getElem (by simpa using h)]
  rfl
theorem name_short {s : ByteArray} (h : s.size = 0 ∨ 64 < s.size) : nameB s = false := by
  unfold nameB
  rcases h with h | h
  · simp [h]
  · have : ¬ s.size ≤ 64 := by omega
    simp [this]
theorem name_yes {s : ByteArray} (h0 : 0 < s.size) (h1 : s.size ≤ 64) (h : s.data.toList.all okc = true) : nameB s = true := by
  unfold nameB
  simp only [h0, h1, h, decide_true, Bool.and_self]
theorem name_no {s : ByteArray} {k : Nat} (hk : k < s.size) (h : okc s[k] = false) : nameB s = false := by
  unfold nameB
  have : s.data.toList.all okc = false := by
    rw [List.all_eq_false]
    exact ⟨s[k], by rw [← byteE s k hk]; exact List.getElem_mem _, by simp [h]⟩
  rw [this]
  simp
theorem okc_ways (c : UInt8) : (okc c = false ∧ (c.toNat : Int) < 32) ∨ (okc c = false ∧ ¬ (c.toNat : Int) < 32 ∧ 126 < (c.toNat : Int)) ∨ (okc c = false ∧ ¬ (c.toNat : Int) < 32 ∧ ¬ 126 < (c.toNat : Int) ∧ ((c.toNat : Int) == 34) = true) ∨
    (okc c = false ∧ ¬ (c.toNat : Int) < 32 ∧ ¬ 126 < (c.toNat : Int) ∧ ((c.toNat : Int) == 34) = false ∧ ((c.toNat : Int) == 92) = true) ∨ (okc c = true ∧ ¬ (c.toNat : Int) < 32 ∧ ¬ 126 < (c.toNat : Int) ∧ ((c.toNat : Int) == 34) = false ∧ ((c.toNat : Int) == 92) = false) := by
  unfold okc
  by_cases h1 : (c.toNat : Int) < 32
  · refine .inl ⟨?_, h1⟩
    rw [decide_eq_false (by omega)]
    rfl
  · by_cases h2 : 126 < (c.toNat : Int)
    · refine .inr (.inl ⟨?_, h1, h2⟩)
      rw [decide_eq_false (p := (c.toNat : Int) ≤ 126) (by omega)]
      simp
    · rw [decide_eq_true (p := 32 ≤ (c.toNat : Int)) (by omega), decide_eq_true (p := (c.toNat : Int) ≤ 126) (by omega)]
      cases h3 : ((c.toNat : Int) == 34)
      · cases h4 : ((c.toNat : Int) == 92)
        · exact .inr (.inr (.inr (.inr ⟨rfl, h1, h2, rfl, rfl⟩)))
        · exact .inr (.inr (.inr (.inl ⟨rfl, h1, h2, rfl, rfl⟩)))
      · exact .inr (.inr (.inl ⟨rfl, h1, h2, rfl⟩))
theorem str_ne {s : ByteArray} (h : 0 < s.size) : s.toList.isEmpty = false := by
  rw [ByteArray.toList_eq, List.isEmpty_eq_false_iff]
  intro e
  have := congrArg List.length e
  rw [Array.length_toList] at this
  have h2 : s.data.size = s.size := rfl
  rw [h2] at this
  simp only [List.length_nil] at this
  omega
theorem str_nil {s : ByteArray} (h : s.size = 0) : s.toList.isEmpty = true := by
  rw [ByteArray.toList_eq, List.isEmpty_iff]
  apply List.eq_nil_of_length_eq_zero
  simpa using h
theorem name_any (s : ByteArray) (w : World) (hs : s.size ≤ maxLen) : Calls Tryd.prog 46 #[.string s] w fun e w' => e = .returned (.bool (nameB s)) ∧ w = w' := by
  unfold maxLen at hs
  by_cases h0 : s.size = 0
  · have hn := Lib.hid (name_short (.inl h0))
    have he : s.toList.isEmpty = true := str_nil h0
    rw [hn.out]
    go_enter Tryd.func46, Tryd.ntmps46
    go_wp2
    go_ret
    exact ⟨rfl, rfl⟩
  have he : s.toList.isEmpty = false := str_ne (by omega)
  by_cases h1 : 64 < s.size
  · have hn := Lib.hid (name_short (.inr h1))
    rw [hn.out]
    have h1i : (64 : Int) < (s.size : Int) := by omega
    go_enter Tryd.func46, Tryd.ntmps46
    go_wp2
    go_ret
    exact ⟨rfl, rfl⟩
  have h1i : ¬ (64 : Int) < (s.size : Int) := by omega
  have h1l : s.size ≤ 64 := by omega
  have h0l : 0 < s.size := by omega
  clear h1 h0
  go_enter Tryd.func46, Tryd.ntmps46
  go_wp2
  go_loop [14] (fun i => ∃ k : Nat, k ≤ s.size ∧ i = .int .i64 k ∧ (s.data.toList.take k).all okc = true) (fun i => s.size - (intOf i).toNat)
  case atStart => exact ⟨0, Nat.zero_le _, rfl, by simp⟩
  case round =>
    obtain ⟨k, hk, rfl, hall⟩ := hrel
    by_cases hlt : k < s.size
    · have HA := Lib.hid hall
      clear hall
      rcases okc_ways s[k] with ⟨h, q⟩ | ⟨h, q1, q⟩ | ⟨h, q1, q2, q⟩ | ⟨h, q1, q2, q3, q⟩ | ⟨h, q1, q2, q3, q⟩
      case' inr.inr.inr.inr =>
        have HT : Hid ((s.data.toList.take (k + 1)).all okc = true) := by
          show _ = _
          rw [takeB s k hlt, List.all_append, HA.out, List.all_cons, h]
          rfl
        clear h
        go_wp2
        go_round
        case rel => exact ⟨k + 1, by omega, by go_num, HT.out⟩
        case measure => simp [intOf]; omega
      all_goals
        have hn := Lib.hid (name_no hlt h)
        clear h
        go_wp2
        go_ret
        exact ⟨by rw [hn.out]; rfl, rfl⟩
    · obtain rfl : k = s.size := by omega
      rw [List.take_of_length_le (by simp)] at hall
      have hn := Lib.hid (name_yes h0l h1l hall)
      clear hall
      go_wp2
      go_ret
      exact ⟨by rw [hn.out]; rfl, rfl⟩
theorem rname_any (s : ByteArray) (w : World) (hs : s.size ≤ maxLen) : Calls Tryd.prog 23 #[.string s] w fun e w' => e = .returned (.bool (nameB s)) ∧ w = w' := by
  unfold maxLen at hs
  by_cases h0 : s.size = 0
  · have hn := Lib.hid (name_short (.inl h0))
    have he : s.toList.isEmpty = true := str_nil h0
    rw [hn.out]
    go_enter Tryd.func23, Tryd.ntmps23
    go_wp2
    go_ret
    exact ⟨rfl, rfl⟩
  have he : s.toList.isEmpty = false := str_ne (by omega)
  by_cases h1 : 64 < s.size
  · have hn := Lib.hid (name_short (.inr h1))
    rw [hn.out]
    have h1i : (64 : Int) < (s.size : Int) := by omega
    go_enter Tryd.func23, Tryd.ntmps23
    go_wp2
    go_ret
    exact ⟨rfl, rfl⟩
  have h1i : ¬ (64 : Int) < (s.size : Int) := by omega
  have h1l : s.size ≤ 64 := by omega
  have h0l : 0 < s.size := by omega
  clear h1 h0
  go_enter Tryd.func23, Tryd.ntmps23
  go_wp2
  go_loop [13] (fun i => ∃ k : Nat, k ≤ s.size ∧ i = .int .i64 k ∧ (s.data.toList.take k).all okc = true) (fun i => s.size - (intOf i).toNat)
  case atStart => exact ⟨0, Nat.zero_le _, rfl, by simp⟩
  case round =>
    obtain ⟨k, hk, rfl, hall⟩ := hrel
    by_cases hlt : k < s.size
    · have HA := Lib.hid hall
      clear hall
      rcases okc_ways s[k] with ⟨h, q⟩ | ⟨h, q1, q⟩ | ⟨h, q1, q2, q⟩ | ⟨h, q1, q2, q3, q⟩ | ⟨h, q1, q2, q3, q⟩
      case' inr.inr.inr.inr =>
        have HT : Hid ((s.data.toList.take (k + 1)).all okc = true) := by
          show _ = _
          rw [takeB s k hlt, List.all_append, HA.out, List.all_cons, h]
          rfl
        clear h
        go_wp2
        go_round
        case rel => exact ⟨k + 1, by omega, by go_num, HT.out⟩
        case measure => simp [intOf]; omega
      all_goals
        have hn := Lib.hid (name_no hlt h)
        clear h
        go_wp2
        go_ret
        exact ⟨by rw [hn.out]; rfl, rfl⟩
    · obtain rfl : k = s.size := by omega
      rw [List.take_of_length_le (by simp)] at hall
      have hn := Lib.hid (name_yes h0l h1l hall)
      clear hall
      go_wp2
      go_ret
      exact ⟨by rw [hn.out]; rfl, rfl⟩
end Go.Proofs.YtjimoegegigoiaaDoor
