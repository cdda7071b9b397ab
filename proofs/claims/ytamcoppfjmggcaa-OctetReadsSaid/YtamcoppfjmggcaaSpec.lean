/-
  One contract a function, whatever the input: octet.Put and tetherref01.Put answer alike; octet.Get and tetherref01.Get answer alike.
-/
import Derived.Test.YtamcoppfjmggcaaPut
import Derived.Test.YtamcoppfjmggcaaRefPut
import Derived.Test.YtamcoppfjmggcaaRefGet
import Derived.Test.YtamcoppfjmggcaaKept
import Derived.Test.YtamcoppfjmggcaaClone
namespace Go.Proofs.Ytamcoppfjmggcaa
open Go.RowKit
set_option linter.unusedSimpArgs false
set_option linter.unusedVariables false

/-- can the number x stand in s bytes? -/
def putOk (x s : Int) : Prop := (1 ≤ s ∧ s ≤ 8) ∧ x / 2 ^ (8 * s.toNat) = 0
instance (x s : Int) : Decidable (putOk x s) := by unfold putOk; infer_instance
def putErr (x s : Int) : Int := if putOk x s then 0 else 1
def putList (l : List UInt8) (x s : Int) : List UInt8 := if putOk x s then l ++ putB x.toNat s.toNat else []
/-- is there a number of s bytes at place p of l? -/
def getBad (l : List UInt8) (p s : Int) : Prop := ¬ (1 ≤ s ∧ s ≤ 8) ∨ p < 0 ∨ (l.length : Int) < p
instance (l : List UInt8) (p s : Int) : Decidable (getBad l p s) := by unfold getBad; infer_instance
def getErr (l : List UInt8) (p s : Int) : Int := if getBad l p s then 1 else if (l.length : Int) - p < s then 8 else 0
def getVal (l : List UInt8) (p s : Int) : Int := if getErr l p s = 0 then num (l.drop p.toNat) s.toNat else 0

theorem put_all (A : Option Addr) (n c : Nat) (x s : Int) (l : List UInt8) (w : World) (hr : Rd w w.heap.size A n l) (hx0 : 0 ≤ x) (hx1 : x < 18446744073709551616) (hn : n ≤ 140737488351232) :
    Calls Try.prog 9 #[.slice A n c, .int .u64 x, .int .i64 s] w fun e w' =>
      ∃ v, e = .returned (.tuple #[v, .int .i64 (putErr x s)]) ∧ Own w' w.heap.size v (putList l x s) ∧ Below w.heap.size w w' := by
  by_cases hs : 1 ≤ s ∧ s ≤ 8
  · obtain ⟨t, rfl⟩ := Int.eq_ofNat_of_zero_le (show 0 ≤ s by omega)
    by_cases hq : x / 2 ^ (8 * t) = 0
    · have hok : putOk x t := ⟨hs, by rw [Int.toNat_natCast]; exact hq⟩
      have hl := hr.1
      refine (put_ok A n c t x l w hr (by omega) (by omega) hx0 hx1 (by simp [hq]) hn).mono ?_
      rintro e w' ⟨rfl, hb, hB⟩
      refine ⟨_, by unfold putErr; rw [if_pos hok], ?_, hB⟩
      unfold putList
      rw [if_pos hok, Int.toNat_natCast]
      have hlen : (l ++ putB x.toNat t).length = n + t := by rw [List.length_append, putB_length, hl]
      have := own_of_blk (base := w.heap.size) hb (Nat.le_refl _) (by omega)
      rw [hlen] at this
      exact this
    · have hok : ¬ putOk x t := fun h => hq (by have := h.2; rw [Int.toNat_natCast] at this; exact this)
      have e8 : (8 * (t : Int)).toNat = 8 * t := by omega
      refine (put_much A n c x t w hs hx0 hx1 (by rw [e8]; simpa using hq)).mono ?_
      rintro e w' ⟨rfl, rfl⟩
      refine ⟨_, by unfold putErr; rw [if_neg hok], ?_, Below.refl _ _⟩
      unfold putList
      rw [if_neg hok]
      exact Own.nil _ _
  · have hok : ¬ putOk x s := fun h => hs h.1
    refine (put_size A n c x s w hs).mono ?_
    rintro e w' ⟨rfl, rfl⟩
    refine ⟨_, by unfold putErr; rw [if_neg hok], ?_, Below.refl _ _⟩
    unfold putList
    rw [if_neg hok]
    exact Own.nil _ _

theorem refput_all (A : Option Addr) (n c : Nat) (x s : Int) (l : List UInt8) (w : World) (hr : Rd w w.heap.size A n l) (hnil : A = none → c = 0) (hx0 : 0 ≤ x) (hx1 : x < 18446744073709551616) (hn : n ≤ 140737488351232) :
    Calls Try.prog 10 #[.slice A n c, .int .u64 x, .int .i64 s] w fun e w' =>
      ∃ v, e = .returned (.tuple #[v, .int .i64 (putErr x s)]) ∧ Own w' w.heap.size v (putList l x s) ∧ Below w.heap.size w w' := by
  by_cases hs : 1 ≤ s ∧ s ≤ 8
  · obtain ⟨t, rfl⟩ := Int.eq_ofNat_of_zero_le (show 0 ≤ s by omega)
    by_cases hq : x / 2 ^ (8 * t) = 0
    · have hok : putOk x t := ⟨hs, by rw [Int.toNat_natCast]; exact hq⟩
      refine (refput_ok A n c t x l w hr hnil (by omega) (by omega) hx0 hx1 (by simp [hq]) hn).mono ?_
      rintro e w' ⟨v, rfl, ho, hB⟩
      refine ⟨_, by unfold putErr; rw [if_pos hok], ?_, hB⟩
      unfold putList
      rw [if_pos hok, Int.toNat_natCast]
      exact ho
    · have hok : ¬ putOk x t := fun h => hq (by have := h.2; rw [Int.toNat_natCast] at this; exact this)
      have h8 : t < 8 := by
        rcases Nat.lt_or_ge t 8 with h | h
        · exact h
        · exfalso
          obtain rfl : t = 8 := by omega
          exact hq (by omega)
      refine (refput_much A n c t x w (by omega) h8 hx0 hx1 (by simpa using hq)).mono ?_
      rintro e w' ⟨rfl, rfl⟩
      refine ⟨_, by unfold putErr; rw [if_neg hok], ?_, Below.refl _ _⟩
      unfold putList
      rw [if_neg hok]
      exact Own.nil _ _
  · have hok : ¬ putOk x s := fun h => hs h.1
    refine (refput_size A n c x s w hs).mono ?_
    rintro e w' ⟨rfl, rfl⟩
    refine ⟨_, by unfold putErr; rw [if_neg hok], ?_, Below.refl _ _⟩
    unfold putList
    rw [if_neg hok]
    exact Own.nil _ _

theorem get_all (A : Option Addr) (n c : Nat) (p s : Int) (l : List UInt8) (w : World) (B : Nat) (hr : Rd w B A n l) (hc : n ≤ c) (hn : n ≤ 140737488351232) :
    Calls Try.prog 13 #[.slice A n c, .int .i64 p, .int .i64 s] w fun e w' => e = .returned (.tuple #[.int .u64 (getVal l p s), .int .i64 (getErr l p s)]) ∧ w = w' := by
  have hl := hr.1
  by_cases hbad : getBad l p s
  · have e1 : getErr l p s = 1 := if_pos hbad
    have e0 : getVal l p s = 0 := by unfold getVal; rw [e1]; rfl
    rw [e0, e1]
    exact get_arg A n c p s w (by unfold getBad at hbad; rw [hl] at hbad; exact hbad)
  · have h := hbad
    unfold getBad at h
    rw [hl] at h
    by_cases hlt : (l.length : Int) - p < s
    · have e1 : getErr l p s = 8 := by unfold getErr; rw [if_neg hbad, if_pos hlt]
      have e0 : getVal l p s = 0 := by unfold getVal; rw [e1]; rfl
      rw [e0, e1]
      exact get_short A n c p s w (by omega) (by omega) (by omega) (by omega) (by omega)
    · have e1 : getErr l p s = 0 := by unfold getErr; rw [if_neg hbad, if_neg hlt]
      have e0 : getVal l p s = num (l.drop p.toNat) s.toNat := by unfold getVal; rw [e1]; rfl
      rw [e0, e1]
      have hp : p = (p.toNat : Int) := by omega
      have hs : s = (s.toNat : Int) := by omega
      have := get_ok A n c p.toNat s.toNat l w B hr (by omega) (by omega) (by omega) hc (by omega)
      rw [← hp, ← hs] at this
      exact this

theorem refget_all (A : Option Addr) (n c : Nat) (p s : Int) (l : List UInt8) (w : World) (B : Nat) (hr : Rd w B A n l) (hn : n ≤ 140737488351232) :
    Calls Try.prog 14 #[.slice A n c, .int .i64 p, .int .i64 s] w fun e w' => e = .returned (.tuple #[.int .u64 (getVal l p s), .int .i64 (getErr l p s)]) ∧ w = w' := by
  have hl := hr.1
  by_cases hbad : getBad l p s
  · have e1 : getErr l p s = 1 := if_pos hbad
    have e0 : getVal l p s = 0 := by unfold getVal; rw [e1]; rfl
    rw [e0, e1]
    exact refget_arg A n c p s w (by unfold getBad at hbad; rw [hl] at hbad; exact hbad)
  · have h := hbad
    unfold getBad at h
    rw [hl] at h
    by_cases hlt : (l.length : Int) - p < s
    · have e1 : getErr l p s = 8 := by unfold getErr; rw [if_neg hbad, if_pos hlt]
      have e0 : getVal l p s = 0 := by unfold getVal; rw [e1]; rfl
      rw [e0, e1]
      exact refget_short A n c p s w (by omega) (by omega) (by omega) (by omega) (by omega) (by omega)
    · have e1 : getErr l p s = 0 := by unfold getErr; rw [if_neg hbad, if_neg hlt]
      have e0 : getVal l p s = num (l.drop p.toNat) s.toNat := by unfold getVal; rw [e1]; rfl
      rw [e0, e1]
      have hp : p = (p.toNat : Int) := by omega
      have hs : s = (s.toNat : Int) := by omega
      have := refget_ok A n c p.toNat s.toNat l w B hr (by omega) (by omega) hn (by omega)
      rw [← hp, ← hs] at this
      exact this

theorem same_own (v u : Value) (b1 b2 : Nat) (l : List UInt8) (w : World) (hv : Own w b1 v l) (hu : Own w b2 u l) (hm : l.length ≤ 140737488355328) :
    Calls Try.prog 11 #[v, u] w fun e w' => e = .returned (.bool true) ∧ ∃ k, w' = w.drewN k := by
  have hM : l.length ≤ maxLen := by unfold maxLen; omega
  rcases hv.form with ⟨rfl, rfl⟩ | ⟨g, cap, rfl, _, _, _⟩ <;> rcases hu.form with ⟨rfl, h0⟩ | ⟨g', cap', rfl, _, _, _⟩
  · exact same_yes none none 0 0 0 [] w w.heap.size Rd.nil Rd.nil hM
  · exact same_yes none _ 0 0 cap' [] w w.heap.size Rd.nil (hu.rd rfl 0 (Nat.le_refl _)) hM
  · subst h0
    exact same_yes _ none 0 cap 0 [] w w.heap.size (hv.rd rfl 0 (Nat.le_refl _)) Rd.nil hM
  · have h1 := hv.rd rfl l.length (Nat.le_refl _)
    have h2 := hu.rd rfl l.length (Nat.le_refl _)
    rw [List.take_of_length_le (Nat.le_refl _)] at h1 h2
    exact same_yes _ _ l.length cap cap' l w w.heap.size h1 h2 hM
end Go.Proofs.Ytamcoppfjmggcaa
