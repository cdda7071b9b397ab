/-
  Plain: bytes that wait in a ring of cells.
-/
import Derived.Test.YtdnheiefbecaeaaWords
namespace Go.Proofs.Ytdnheiefbecaeaa
set_option linter.unusedSimpArgs false
set_option linter.unusedVariables false

/-- the cell n places behind f, of so many -/
def around (room f n : Nat) : Nat := if f + n < room then f + n else f + n - room
def ringOf (cs : List UInt8) (f h : Nat) : List UInt8 := (List.range h).map fun i => cs.getD (around cs.length f i) 0
theorem ringOf_length (cs : List UInt8) (f h : Nat) : (ringOf cs f h).length = h := by simp [ringOf]
theorem ringOf_at (cs : List UInt8) (f h i : Nat) (hi : i < h) : (ringOf cs f h).getD i 0 = cs.getD (around cs.length f i) 0 := by
  unfold ringOf
  rw [List.getD_eq_getElem?_getD, List.getElem?_map, List.getElem?_range hi]
  rfl
theorem ext_getD {a b : List UInt8} (hl : a.length = b.length) (h : ∀ i, i < a.length → a.getD i 0 = b.getD i 0) : a = b := by
  refine List.ext_getElem hl fun i h1 h2 => ?_
  have := h i h1
  rw [List.getD_eq_getElem?_getD, List.getD_eq_getElem?_getD, List.getElem?_eq_getElem h1, List.getElem?_eq_getElem h2] at this
  exact this
theorem getD_app (a b : List UInt8) (i : Nat) : (a ++ b).getD i 0 = if i < a.length then a.getD i 0 else b.getD (i - a.length) 0 := by
  rw [List.getD_eq_getElem?_getD, List.getD_eq_getElem?_getD, List.getD_eq_getElem?_getD]
  split
  · rename_i h
    rw [List.getElem?_append_left h]
  · rename_i h
    rw [List.getElem?_append_right (by omega)]
theorem getD_take (a : List UInt8) (k i : Nat) (h : i < k) : (a.take k).getD i 0 = a.getD i 0 := by
  rw [List.getD_eq_getElem?_getD, List.getD_eq_getElem?_getD, List.getElem?_take_of_lt h]
theorem getD_drop (a : List UInt8) (k i : Nat) : (a.drop k).getD i 0 = a.getD (k + i) 0 := by
  rw [List.getD_eq_getElem?_getD, List.getD_eq_getElem?_getD, List.getElem?_drop]
theorem ringOf_take (cs : List UInt8) (f h m : Nat) (hm : m ≤ h) : (ringOf cs f h).take m = ringOf cs f m := by
  refine ext_getD (by rw [List.length_take, ringOf_length, ringOf_length]; omega) fun i hi => ?_
  rw [List.length_take, ringOf_length] at hi
  rw [getD_take _ _ _ (by omega), ringOf_at _ _ _ _ (by omega), ringOf_at _ _ _ _ (by omega)]
theorem ringOf_drop (cs : List UInt8) (f h m : Nat) (hm : m ≤ h) (hh : h ≤ cs.length) (hf : f < cs.length) : (ringOf cs f h).drop m = ringOf cs (around cs.length f m) (h - m) := by
  refine ext_getD (by rw [List.length_drop, ringOf_length, ringOf_length]) fun i hi => ?_
  rw [List.length_drop, ringOf_length] at hi
  rw [getD_drop, ringOf_at _ _ _ _ (by omega), ringOf_at _ _ _ _ (by omega)]
  congr 1
  unfold around
  split <;> split <;> split <;> omega
/-- bytes written over a list from place o on -/
def over (l : List UInt8) (o : Nat) (m : List UInt8) : List UInt8 := l.take o ++ (m ++ l.drop (o + m.length))
theorem over_length (l : List UInt8) (o : Nat) (m : List UInt8) (h : o + m.length ≤ l.length) : (over l o m).length = l.length := by
  unfold over
  simp only [List.length_append, List.length_take, List.length_drop]
  omega
theorem over_at (l : List UInt8) (o : Nat) (m : List UInt8) (h : o + m.length ≤ l.length) (j : Nat) : (over l o m).getD j 0 = if o ≤ j ∧ j < o + m.length then m.getD (j - o) 0 else l.getD j 0 := by
  unfold over
  rw [getD_app, getD_app, List.length_take, Nat.min_eq_left (by omega)]
  by_cases h1 : j < o
  · rw [if_pos h1, if_neg (by omega), getD_take _ _ _ h1]
  · rw [if_neg h1]
    by_cases h2 : j - o < m.length
    · rw [if_pos h2, if_pos (by omega)]
    · rw [if_neg h2, if_neg (by omega), getD_drop]
      congr 1
      omega
/-- what waits behind b's bytes, laid in two pieces -/
theorem ringOf_write (cs b : List UInt8) (f h n1 : Nat) (hf : f < cs.length) (hb : h + b.length ≤ cs.length) (hn : n1 = min b.length (cs.length - around cs.length f h)) (hat : around cs.length f h < cs.length ∨ n1 = 0) :
    ringOf (over (over cs (around cs.length f h) (b.take n1)) 0 (b.drop n1)) f (h + b.length) = ringOf cs f h ++ b := by
  have ha : around cs.length f h ≤ cs.length := by unfold around; split <;> omega
  have l1 : (b.take n1).length = n1 := by rw [List.length_take]; omega
  have l2 : (b.drop n1).length = b.length - n1 := List.length_drop
  have le1 : (over cs (around cs.length f h) (b.take n1)).length = cs.length := over_length _ _ _ (by rw [l1]; omega)
  have le2 : (over (over cs (around cs.length f h) (b.take n1)) 0 (b.drop n1)).length = cs.length := by
    rw [over_length _ _ _ (by rw [l2, le1]; omega), le1]
  refine ext_getD (by rw [ringOf_length, List.length_append, ringOf_length]) fun i hi => ?_
  rw [ringOf_length] at hi
  rw [ringOf_at _ _ _ _ hi, le2, over_at _ _ _ (by rw [l2, le1]; omega), over_at _ _ _ (by rw [l1]; omega), l1, l2, getD_app, ringOf_length]
  have hA : around cs.length f h = if f + h < cs.length then f + h else f + h - cs.length := rfl
  have hI : around cs.length f i = if f + i < cs.length then f + i else f + i - cs.length := rfl
  generalize around cs.length f h = A at *
  generalize hJ : around cs.length f i = J at *
  by_cases hih : i < h
  · rw [if_pos hih, ringOf_at _ _ _ _ hih, hJ, if_neg ?_, if_neg ?_]
    · split at hA <;> split at hI <;> omega
    · split at hA <;> split at hI <;> omega
  · rw [if_neg hih]
    by_cases hw : 0 ≤ J ∧ J < 0 + (b.length - n1)
    · rw [if_pos hw]
      by_cases hw2 : A ≤ J ∧ J < A + n1
      · exfalso
        split at hA <;> split at hI <;> omega
      · rw [getD_drop]
        congr 1
        split at hA <;> split at hI <;> omega
    · rw [if_neg hw, if_pos ?_, getD_take _ _ _ ?_]
      · congr 1
        split at hA <;> split at hI <;> omega
      · split at hA <;> split at hI <;> omega
      · split at hA <;> split at hI <;> omega
theorem ringOf_peek (cs : List UInt8) (f m k : Nat) (hf : f < cs.length) (hm : m ≤ cs.length) (hk : k = min m (cs.length - f)) : (cs.drop f).take k ++ cs.take (m - k) = ringOf cs f m := by
  have l1 : ((cs.drop f).take k).length = k := by rw [List.length_take, List.length_drop]; omega
  refine ext_getD (by rw [List.length_append, l1, ringOf_length, List.length_take]; omega) fun i hi => ?_
  rw [List.length_append, l1, List.length_take] at hi
  rw [getD_app, l1, ringOf_at _ _ _ _ (by omega)]
  unfold around
  split
  · rw [getD_take _ _ _ (by assumption), getD_drop, if_pos (by omega)]
  · rw [getD_take _ _ _ (by omega), if_neg (by omega)]
    congr 1
    omega
end Go.Proofs.Ytdnheiefbecaeaa
