/-
  Addresses: slices.Contains, slices.ContainsFunc over addrWrong.
-/
import Derived.Test.YtjimoegegigoiaaDoorSeBase
namespace Go.Proofs.YtjimoegegigoiaaDoor
open Go.RowKit Go.Shelf
set_option maxRecDepth 100000
set_option maxHeartbeats 2000000
set_option linter.unusedSimpArgs false
set_option linter.unusedVariables false

theorem contains_false {l : List Int} {z : Int} (h : ∀ y ∈ l, y ≠ z) : hasI l z = false := by
  unfold hasI
  rw [List.contains_eq_any_beq, List.any_eq_false]
  intro y hy
  simpa using fun e => h y hy e.symm
theorem contains_true {l : List Int} {z : Int} {k : Nat} (h : l[k]? = some z) : hasI l z = true := by
  unfold hasI
  rw [List.contains_eq_any_beq, List.any_eq_true]
  exact ⟨z, List.mem_of_getElem? h, by simp⟩
theorem take_one {α : Type} {l : List α} {k : Nat} {x : α} (h : l[k]? = some x) : l.take (k + 1) = l.take k ++ [x] := by
  rw [List.take_add_one, h]
  rfl
/-- a place, or -1 -/
def PlaceOf (c : Bool) (e : Ending) : Prop := ∃ r : Int, e = .returned (.int .i64 r) ∧ decide (0 ≤ r) = c
theorem idx64_any (A : Option Addr) (m k B : Nat) (l : List Int) (z : Int) (w : World) (h : AdRd w B A m k l) (hB : B ≤ w.heap.size) :
    Calls Tryd.prog 126 #[.slice A m k, .int .i64 z] w fun e w' => PlaceOf (hasI l z) e ∧ w = w' := by
  obtain ⟨h1, h2, h3, h4, h5⟩ := h
  have H5 := Lib.hid h5
  have H1 := Lib.hid h1
  clear h5 h1
  go_enter Tryd.func126, Tryd.ntmps126
  go_wp2
  go_loop [8] (fun i => ∃ j : Nat, j ≤ m ∧ i = .int .i64 j ∧ ∀ y ∈ l.take j, y ≠ z) (fun i => m - (intOf i).toNat)
  case atStart => exact ⟨0, Nat.zero_le _, rfl, fun y hy => by simp at hy⟩
  case round =>
    obtain ⟨j, hj, rfl, hno⟩ := hrel
    by_cases hlt : j < m
    · obtain ⟨b, off, rfl, hl, hc⟩ := H5.out (by omega)
      obtain ⟨y, hy⟩ : ∃ y, l[j]? = some y := ⟨l[j]'(by have := H1.out; omega), List.getElem?_eq_getElem _⟩
      have c0 := hc j y hy
      have HN := Lib.hid hno
      have HY := Lib.hid hy
      clear hc hno hy
      by_cases he : z = y
      · have e1 : (z == y) = true := by simpa using he
        have HC : Hid (hasI l z = true) := contains_true (he ▸ HY.out)
        clear he
        go_wp2
        go_ret
        exact ⟨⟨_, rfl, by rw [HC.out]; simp⟩, rfl⟩
      · have e1 : (z == y) = false := by simpa using he
        have HNX : Hid (∀ x ∈ l.take (j + 1), x ≠ z) := by
          intro x hx
          rw [take_one HY.out] at hx
          rcases List.mem_append.1 hx with h | h
          · exact HN.out x h
          · rw [List.mem_singleton.1 h]; exact fun e => he e.symm
        clear he
        go_wp2
        go_round
        case rel => exact ⟨j + 1, by omega, by go_num, HNX.out⟩
        case measure => simp [intOf]; omega
    · obtain rfl : j = m := by omega
      rw [List.take_of_length_le (by have := H1.out; omega)] at hno
      have HC := Lib.hid (contains_false hno)
      clear hno
      go_wp2
      go_ret
      exact ⟨⟨_, rfl, by rw [HC.out]; simp⟩, rfl⟩
theorem has64_any (A : Option Addr) (m k B : Nat) (l : List Int) (z : Int) (w : World) (h : AdRd w B A m k l) (hB : B ≤ w.heap.size) :
    Calls Tryd.prog 116 #[.slice A m k, .int .i64 z] w fun e w' => e = .returned (.bool (hasI l z)) ∧ w = w' := by
  have C := Lib.hid (idx64_any A m k B l z w h hB)
  clear h
  go_enter Tryd.func116, Tryd.ntmps116
  go_wp2_with (go_at_call 126; ((with_reducible refine C.out.mono ?_); rintro e w' ⟨⟨r, rfl, hr⟩, rfl⟩; have HR := Lib.hid hr; clear hr))
  go_ret
  exact ⟨by rw [← HR.out]; rfl, rfl⟩
theorem wrong_any (z : Int) (w : World) : Calls Tryd.prog 115 #[.int .i64 z] w fun e w' => e = .returned (.bool (wrongA z)) ∧ w = w' := by
  by_cases h1 : z < 1
  · have e : Hid (wrongA z = true) := by show _ = _; simp [wrongA, h1]
    rw [e.out]
    go_enter Tryd.func115, Tryd.ntmps115
    go_wp2
    go_ret
    exact ⟨rfl, rfl⟩
  · by_cases h2 : 4294967295 < z
    all_goals
      have e : Hid (wrongA z = decide (4294967295 < z)) := by show _ = _; simp [wrongA, h1]
      rw [e.out]
      go_enter Tryd.func115, Tryd.ntmps115
      go_wp2
      go_ret
      first | exact ⟨rfl, rfl⟩ | exact ⟨by simp [h2], rfl⟩ | exact ⟨trivial, rfl⟩
theorem idxF_any (A : Option Addr) (m k B : Nat) (l : List Int) (w : World) (h : AdRd w B A m k l) (hB : B ≤ w.heap.size) :
    Calls Tryd.prog 125 #[.slice A m k, .func (.func 115) #[] #[]] w fun e w' => PlaceOf (anyW l) e ∧ w = w' := by
  obtain ⟨h1, h2, h3, h4, h5⟩ := h
  have H5 := Lib.hid h5
  have H1 := Lib.hid h1
  clear h5 h1
  go_enter Tryd.func125, Tryd.ntmps125
  go_wp2
  go_loop [8] (fun i => ∃ j : Nat, j ≤ m ∧ i = .int .i64 j ∧ anyW (l.take j) = false) (fun i => m - (intOf i).toNat)
  case atStart => exact ⟨0, Nat.zero_le _, rfl, by simp [anyW]⟩
  case round =>
    obtain ⟨j, hj, rfl, hno⟩ := hrel
    by_cases hlt : j < m
    · obtain ⟨b, off, rfl, hl, hc⟩ := H5.out (by omega)
      obtain ⟨y, hy⟩ : ∃ y, l[j]? = some y := ⟨l[j]'(by have := H1.out; omega), List.getElem?_eq_getElem _⟩
      have c0 := hc j y hy
      have HN := Lib.hid hno
      have HY := Lib.hid hy
      clear hc hno hy
      cases hw : wrongA y
      · have HNX : Hid (anyW (l.take (j + 1)) = false) := by
          show _ = _
          have h0 : (l.take j).any wrongA = false := HN.out
          unfold anyW
          rw [take_one HY.out, List.any_append, h0, List.any_cons, hw]
          rfl
        go_wp2_with (go_at_call 115; ((with_reducible refine (wrong_any _ _).mono ?_); rintro e w' ⟨rfl, rfl⟩))
        go_round
        case rel => exact ⟨j + 1, by omega, by go_num, HNX.out⟩
        case measure => simp [intOf]; omega
      · have HC : Hid (anyW l = true) := by
          show _ = _
          unfold anyW
          rw [List.any_eq_true]
          exact ⟨y, List.mem_of_getElem? HY.out, hw⟩
        go_wp2_with (go_at_call 115; ((with_reducible refine (wrong_any _ _).mono ?_); rintro e w' ⟨rfl, rfl⟩))
        go_ret
        exact ⟨⟨_, rfl, by rw [HC.out]; simp⟩, rfl⟩
    · obtain rfl : j = m := by omega
      rw [List.take_of_length_le (by have := H1.out; omega)] at hno
      have HC := Lib.hid hno
      clear hno
      go_wp2
      go_ret
      exact ⟨⟨_, rfl, by rw [HC.out]; simp⟩, rfl⟩
theorem hasF_any (A : Option Addr) (m k B : Nat) (l : List Int) (w : World) (h : AdRd w B A m k l) (hB : B ≤ w.heap.size) :
    Calls Tryd.prog 114 #[.slice A m k, .func (.func 115) #[] #[]] w fun e w' => e = .returned (.bool (anyW l)) ∧ w = w' := by
  have C := Lib.hid (idxF_any A m k B l w h hB)
  clear h
  go_enter Tryd.func114, Tryd.ntmps114
  go_wp2_with (go_at_call 125; ((with_reducible refine C.out.mono ?_); rintro e w' ⟨⟨r, rfl, hr⟩, rfl⟩; have HR := Lib.hid hr; clear hr))
  go_ret
  exact ⟨by rw [← HR.out]; rfl, rfl⟩
end Go.Proofs.YtjimoegegigoiaaDoor
